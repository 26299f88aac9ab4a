/- Parts of the proof, each under the conditions that it names. -/
import Derived.Test.YtecncggeomcdbaaGreatDoorT26
set_option maxRecDepth 100000
set_option maxHeartbeats 12800000
namespace Go.Proofs.YtecncggeomcdbaaGreatDoor
open Go.RowKit
namespace StoreTrialsW
open Kit Byt Mem CpaM RecM StoM StoV StoN StoFr StoTr LayF LayM LayK StoLd
open TabA (Tri Ta)
open TabB (Yes)
open ImgA (Im)
open ImgT (Ig)
open StoR (Ims im0 igOf mkD)
open Lay (Ly)
open ShaE (Tab)
open StoCk (ck)
open StoK (bk bk_by)
open ImgS (closed closed_lt)
open ImgP (head head_lt)
open RecA (rval n64)
def up1 (i:Im):Im:={ i with v:=i.v+1 }
theorem up1_ok {t:Ta} {p:Nat} {i:Im} (hf:Fit1 t p i) (hn:i.xs.length=i.n) (hv:i.v≠65535):ImgB.right (up1 i)∧ck t p (igOf (up1 i)) i.v=0:=by
 have h1:=fit1_ck hf hn
 obtain⟨r1,r2,r3⟩:=h1.1
 refine⟨⟨r1,by show 1≤i.v+1∧i.v+1≤65535;omega,r3⟩,?_⟩
 have h3:=StoCk.tri_ck t p (igOf (up1 i))
 have h4:=StoCk.tri_ck t p (igOf i)
 have h0:=h1.2
 have e2:StoCk.bi (igOf (up1 i))=true:=h3.ri.2 ⟨r1,by show 1≤i.v+1∧i.v+1≤65535;omega,r3.1,r3.2.1,r3.2.2.1,r3.2.2.2.1,r3.2.2.2.2.1,by
  have:=r3.2.2.2.2.2
  show 1≤((i.xs.length:Nat):Int)∧((i.xs.length:Nat):Int)≤96
  omega⟩
 have e3:StoCk.bx t p (igOf (up1 i))=StoCk.bx t p (igOf i):=by
  rw [Bool.eq_iff_iff,h3.rx,h4.rx]
  exact Iff.rfl
 have h0':chk (StoCk.br t) (StoCk.bi (igOf i)) (StoCk.bx t p (igOf i)) t p (StoT.imo (igOf i) none (igOf i).xs.length 0) 0=0:=h0
 show chk (StoCk.br t) (StoCk.bi (igOf (up1 i))) (StoCk.bx t p (igOf (up1 i))) t p (StoT.imo (igOf (up1 i)) none (igOf (up1 i)).xs.length 0) i.v=0
 rw [e2,e3]
 obtain⟨a,ha⟩:∃a,a=StoCk.br t:=⟨_,rfl⟩
 obtain⟨b,hb⟩:∃b,b=StoCk.bi (igOf i):=⟨_,rfl⟩
 obtain⟨c,hc⟩:∃c,c=StoCk.bx t p (igOf i):=⟨_,rfl⟩
 rw [←ha,←hb,←hc] at h0'
 rw [←ha,←hc]
 have g0:(if a=false then (9:Int) else if (p:Int)<0∨(t.n1:Int)≤p∨b=false then 3 else if i.p≠p∨i.h≠(pof t p).c then 12 else if (pof t p).a<i.m∨(pof t p).b<i.f then 14 else if c=true then 15 else if i.v≤0 then 13 else 0)=0:=h0'
 show (if a=false then (9:Int) else if (p:Int)<0∨(t.n1:Int)≤p∨true=false then 3 else if i.p≠p∨i.h≠(pof t p).c then 12 else if (pof t p).a<i.m∨(pof t p).b<i.f then 14 else if c=true then 15 else if i.v+1≤i.v then 13 else 0)=0
 by_cases q1:a=false
 ·rw [if_pos q1] at g0;omega
 rw [if_neg q1] at g0 ⊢
 by_cases q2:(p:Int)<0∨(t.n1:Int)≤p∨b=false
 ·rw [if_pos q2] at g0;omega
 rw [if_neg q2] at g0
 rw [if_neg (fun e=>q2 (by rcases e with e|e|e;exact .inl e;exact .inr (.inl e);cases e))]
 by_cases q3:i.p≠p∨i.h≠(pof t p).c
 ·rw [if_pos q3] at g0;omega
 rw [if_neg q3] at g0 ⊢
 by_cases q4:(pof t p).a<i.m∨(pof t p).b<i.f
 ·rw [if_pos q4] at g0;omega
 rw [if_neg q4] at g0 ⊢
 by_cases q5:c=true
 ·rw [if_pos q5] at g0;omega
 rw [if_neg q5,if_neg (by omega)]
structure Bq (w:World) (F:Nat→Prop) (ζ:Nat→Zl) (q:Nat) (T:TypeId) (C:List Value):Prop where
 blk:Blk w q T C
 nF : ¬F q
 nz:ζ q=.out
theorem Bq.below {w w':World} {F:Nat→Prop} {ζ:Nat→Zl} {q:Nat} {T:TypeId} {C:List Value} (h:Bq w F ζ q T C) (hb:Bw w w'):Bq w' F ζ q T C:=⟨h.blk.below hb,h.nF,h.nz⟩
theorem Bq.kz {w w':World} {F F':Nat→Prop} {ζ:Nat→Zl} {q:Nat} {T:TypeId} {C:List Value} (h:Bq w F ζ q T C) (hk:Kz F ζ w F' w'):Bq w' F' ζ q T C:=by
 have hl:=h.blk.lt
 refine⟨hk.1.blk h.blk fun hh=>?_,fun hh=>?_,h.nz⟩
 ·rcases hh with hh|⟨p,hh|⟨k',hh⟩⟩
  ·exact h.nF hh
  ·rw [h.nz] at hh;cases hh
  ·rw [h.nz] at hh;cases hh
 ·rcases hk.2 _ hh with h1|h1
  ·exact h.nF h1
  ·omega
theorem Lh (T m:Nat):∃a b c:Int,rval (rb T 0 m)=.agg #[.int .i64 0,.int .i64 a,.int .i64 b,.int .i64 0,.int .i64 c,.int .i64 (if m≤T then 0 else 2)]:=by
 unfold rb
 by_cases h:m≤T
 ·rw [if_pos h,if_pos h]
  exact⟨_,_,_,rfl⟩
 ·rw [if_neg h,if_neg h]
  exact⟨_,_,_,rfl⟩
def Lp (w0:World) (g n:Nat) (zz:Nat) (I0:Nat→Nat→Ig) (j2:Ig) (tt k q:Nat) (T:TypeId) (C:List Value) (t0:Ta) (w:World):Prop:=
 ∃(F:Nat→Prop) (ζ:Nat→Zl) (Z:Lo) (t':Ta) (s:DskA.St) (P:Nat→Pt) (D:Dc),Z.z=zz∧Al w0 w F ζ g s t' n P Z D∧Tb I0 j2 tt 0 k D∧Bq w F ζ q T C∧t'.tr=((tt:Nat):Int)∧ck t'=ck t0
def Lq (w0:World) (g n:Nat) (I0:Nat→Nat→Ig) (j2:Ig) (tt k q:Nat) (T:TypeId) (C:List Value) (t0:Ta) (w:World):Prop:=
 ∃(F:Nat→Prop) (s:DskA.St) (D:Dc),Rdy w0 w F g s n D∧DI n (ck t0) D∧Tb I0 j2 tt 0 k D∧Blk w q T C∧¬F q
section
variable {w0 w w':World} {g n zz tt k q:Nat} {I0:Nat→Nat→Ig} {j2:Ig} {T:TypeId} {C:List Value} {t0:Ta}
theorem Lp.bel (h:Lp w0 g n zz I0 j2 tt k q T C t0 w):Bw w0 w:=by
 obtain⟨_,_,_,_,_,_,_,_,h,_⟩:=h
 exact h.bel
theorem Lp.blk (h:Lp w0 g n zz I0 j2 tt k q T C t0 w):Blk w q T C:=by
 obtain⟨_,_,_,_,_,_,_,_,_,_,h,_⟩:=h
 exact h.blk
theorem Lp.below (h:Lp w0 g n zz I0 j2 tt k q T C t0 w) (hb:Bw w w'):Lp w0 g n zz I0 j2 tt k q T C t0 w':=by
 obtain⟨F,ζ,Z,t',s,P,D,h1,h2,h3,h4,h5⟩:=h
 exact⟨F,ζ,Z,t',s,P,D,h1,h2.below hb,h3,h4.below hb,h5⟩
theorem Lp.boot (h:Lp w0 g n zz I0 j2 tt k q T C t0 w) (hT:Tab w0) (hn:0<n) (ht:tt≤7) :
 Calls Tryz.prog 16 #[.pointer (some ⟨zz,0,none⟩),.int .i64 0] w fun e w'=>∃(i':Ig) (B:Option Addr) (m d:Nat),e=.returned (.tuple #[.agg #[.int .i64 i'.p,.int .i64 i'.v,.int .i64 i'.h,.int .i64 i'.m,.int .i64 i'.f,.int .i64 i'.s,.int .i64 i'.r,.slice B m d],.int .i64 0])∧i'=(if k<tt then j2 else I0 0 0)∧Lp w0 g n zz I0 j2 tt (k+1) q T C t0 w':=by
 obtain⟨F,ζ,Z,t',s,P,D,rfl,h2,h3,h4,h5,h6⟩:=h
 refine (al_boot h2 hT (p:=0) hn h5 ht h3).mono ?_
 rintro e w' ⟨i',B,m,d,he,hi,F2,s2,P2,D2,k1,k2,k3⟩
 exact⟨i',B,m,d,he,hi,F2,ζ,Z,t',s2,P2,D2,rfl,k1,k2,h4.kz k3,h5,h6⟩
theorem Lp.rec (h:Lp w0 g n zz I0 j2 tt k q T C t0 w) (hn:0<n) :
 Calls Tryz.prog 17 #[.pointer (some ⟨zz,0,none⟩),.int .i64 0] w fun e w'=>e=.returned (rval (rb tt 0 k))∧Bw w w':=by
 obtain⟨F,ζ,Z,t',s,P,D,rfl,h2,h3,_⟩:=h
 exact al_rec h2 (p:=0) hn h3
theorem Lp.power (h:Lp w0 g n zz I0 j2 tt k q T C t0 w) (K:Nat) (hK:K<18446744073709551616) :
 Calls Tryz.prog 14 #[.pointer (some ⟨g,0,none⟩),.int .u64 (K:Int)] w fun e w'=>e=.returned (.tuple #[])∧Lq w0 g n I0 j2 tt k q T C t0 w':=by
 obtain⟨F,ζ,Z,t',s,P,D,rfl,h2,h3,h4,h5,h6⟩:=h
 refine (al_power h2 K hK).mono ?_
 rintro e w' ⟨he,F',s',k1,k2,k3⟩
 refine⟨he,F',s',D,k1,h6▸h2.lw.di,h3,k2.blk h4.blk h4.nF,fun hh=>?_⟩
 rcases k3 _ hh with h1|h1
 ·exact h4.nF h1
 ·have:=h4.blk.lt
  omega
theorem Lq.bel (h:Lq w0 g n I0 j2 tt k q T C t0 w):Bw w0 w:=by
 obtain⟨_,_,_,h,_⟩:=h
 exact h.bel
theorem Lq.open (h:Lq w0 g n I0 j2 tt k q T C t0 w) (ht:t0.ok w0) (hr:TabD.right t0) (hT:Tab w0) (hn:n=t0.n1) (htt:t0.tr=((tt:Nat):Int)) :
 Calls Tryz.prog 15 #[.pointer (some ⟨g,0,none⟩),t0.val] w fun e w'=>∃zz,e=.returned (.tuple #[.pointer (some ⟨zz,0,none⟩),.int .i64 0])∧Lp w0 g n zz I0 j2 tt k q T C t0 w':=by
 obtain⟨F,s,D,h1,h2,h3,h4,h5⟩:=h
 refine (rdy_open h1 ht hr hT hn h2).mono ?_
 rintro e w' ⟨F',ζ,Z,t',s',P,he,k1,k2,k3,k4,k5,k6⟩
 exact⟨Z.z,he,F',ζ,Z,t',s',P,D,rfl,k1,h3,⟨h4.below k5,fun hh=>h5 (k6 _ hh),Mc_ fun hh=>by have:=k4 _ hh;have:=h4.lt;omega⟩,k3.trans htt,k2⟩
end
theorem core (y:Ly) (bo:Nat) (kp:Nat) (w:World) (hy:y.ok w) (hbo:bo<256) (hkp:kp<18446744073709551616) (hT:Tab w) :
 Calls Tryz.prog 3 #[y.val,.int .u8 (bo:Int),.int .u64 (kp:Int)] w (Yes w true):=by
 have hb0:Bw w (w.alloc (.cells (ycells y).toArray 29)):=(Mb _ _).alloc (Mr _) _
 obtain⟨w1,hw1⟩:∃w1,w1=w.alloc (.cells (ycells y).toArray 29):=⟨_,rfl⟩
 rw [←hw1] at hb0
 have hy1:y.ok w1:=ly_below hy hb0
 have hT1:Tab w1:=hT.below hb0 hT.1
 have WK:=Hz (wakes_any w1 hT1)
 obtain⟨bf,hbf⟩:=TabD.Q3 (Fit y)
 have FT:=Hz (fun w' (hb:Bw w1 w')=>fits_any y w' (ly_below hy1 hb) bf hbf)
 have Y1:=Hz hy1
 have T1:=Hz hT1
 have L1:=Hz hb0
 have BX1:=Hz (show Bx w y w1 from by rw [hw1];exact Bx.new w y)
 have HBF:=Hz hbf
 clear hb0 hy hT hy1 hT1 hbf
 obtain⟨yt,A,n,c,L⟩:=y
 obtain⟨fr,A1,n1,c1,TP,A2,n2,c2,TW,A3,n3,c3,TC,tr⟩:=yt
 show Calls _ _ #[.agg #[.int .i64 fr,.slice A1 n1 c1,.slice A2 n2 c2,.slice A3 n3 c3,.int .i64 tr,.slice A n c],_,_] w _
 go_enter Tryz.func3,Tryz.ntmps3
 go_upto_region 1 with (fail)
 have hw1':w.alloc (.cells #[.int .i64 fr,.slice A1 n1 c1,.slice A2 n2 c2,.slice A3 n3 c3,.int .i64 tr,.slice A n c] 29)=w1:=hw1.symm
 rw [hw1']
 clear hw1 hw1'
 go_wp2_with (first
  | (go_at_call 6;refine WK.o.mono ?_;rintro e w2 ⟨rfl,hb2⟩;have L2:=Hz hb2;have BX2:=Hz (BX1.o.below hb2);clear hb2)
  | (refine Qj rfl 29 (.tmp 3) rfl w.heap.size rfl (show Blk _ w.heap.size 29 [.int .i64 fr,.slice A1 n1 c1,.slice A2 n2 c2,.slice A3 n3 c3,.int .i64 tr,.slice A n c] from BX2.o.blk) Tryz.underlying29 rfl LayE.Wv ?_))
 refine (FT.o _ L2.o).mono ?_
 rintro e w3 ⟨rfl,hb3⟩
 have L3:=Hz (L2.o.trans (hb3.mono L2.o.size))
 have BX3:=Hz (BX2.o.below hb3)
 clear hb3
 cases bf with
 | false=>
   go_wp2_with fail
   go_ret
   exact⟨rfl,L1.o.trans (L3.o.mono L1.o.size)⟩
 | true=>
   have hfit:=HBF.o.1 rfl
   have Y3:=Hz (ly_below Y1.o L3.o)
   have T3:=Hz (T1.o.below L3.o T1.o.1)
   have MD:=Hz (made_any Y3.o T3.o hfit)
   have MF:=Hz (fit_mf Y3.o T3.o hfit)
   have HF:=Hz hfit
   clear hfit HBF FT WK Y1 T1
   go_wp2_with (first
    | (refine Qj rfl 29 (.tmp 3) rfl w.heap.size rfl (show Blk _ w.heap.size 29 [.int .i64 fr,.slice A1 n1 c1,.slice A2 n2 c2,.slice A3 n3 c3,.int .i64 tr,.slice A n c] from BX3.o.blk) Tryz.underlying29 rfl LayE.Wv ?_))
   refine MD.o.mono ?_
   rintro e w4 ⟨F4,ζ,Z,t',s4,P4,g,xb,ρ,M,rfl,hal,hck,htr,hrs,_,_⟩
   have A4:=Hz hal
   have T4:=Hz (And.intro hck htr)
   clear hal hck htr hrs
   have hn4:=MF.o.n4
   have hfn:=HF.o.2.1
   dsimp only at hn4 hfn
   obtain⟨hn4a,hn4b⟩:=hn4
   obtain⟨bi,oi,hA,hbl,hcell⟩:=Y3.o.L.at_ 0 (by show 0<n;omega)
   dsimp only at hA hcell
   subst hA
   have h0n:(0:Int)<(n:Int):=by omega
   have hmem:L.getD 0 im0 ∈ L:=by
    have hlen:L.length=n:=Y3.o.L.len
    rw [Mg,Mq (by omega)]
    exact Me_ _
   have hok:=Y3.o.L.ok _ hmem
   have hf1:=HF.o.2.2.2.1 0 (by show 0<n1;omega)
   have h64:=Y3.o.n _ hmem
   have HCl:=Hz (fun (w':World) (hb:Bw w3 w') i v (h:(L.getD 0 im0).cells[i]?=some v)=>(hb.cell (p:=⟨bi,oi+0*8+i,none⟩) hbl).trans (hcell i v h))
   have HIM:=Hz (And.intro hok (And.intro hf1 h64))
   have hI0:(mkD (L.take n1)).I 0 0=igOf (L.getD 0 im0):=by
    show (if 0=0 then igOf ((L.take n1).getD 0 im0) else Ig.no 0)=_
    rw [if_pos rfl,Yw L (by omega)]
   have HI0:=Hz hI0
   clear hcell hmem hok hf1 h64 hI0 MD
   obtain⟨im,him⟩:∃im,im=L.getD 0 im0:=⟨_,rfl⟩
   rw [←him] at HCl HIM HI0
   clear him
   obtain⟨ip,iv,ih,imm,if_,is_,ir,iA,in_,ic,ixs⟩:=im
   have a5:=(BX3.o.below A4.o.bel).cell.2.2.2.2.2
   dsimp only at a5
   have z0:=HCl.o w4 A4.o.bel 0 _ rfl
   have z1:=HCl.o w4 A4.o.bel 1 _ rfl
   have z2:=HCl.o w4 A4.o.bel 2 _ rfl
   have z3:=HCl.o w4 A4.o.bel 3 _ rfl
   have z4:=HCl.o w4 A4.o.bel 4 _ rfl
   have z5:=HCl.o w4 A4.o.bel 5 _ rfl
   have z6:=HCl.o w4 A4.o.bel 6 _ rfl
   have z7:=HCl.o w4 A4.o.bel 7 _ rfl
   rw [Nat.add_zero] at z0
   simp only [Nat.zero_mul,Nat.add_zero] at z0 z1 z2 z3 z4 z5 z6 z7
   by_cases hv:iv=65535
   ·subst hv
    go_wp2_with fail
    go_ret
    exact⟨rfl,L1.o.trans ((L3.o.trans ((A4.o.bel.alloc A4.o.bel.size _).mono L3.o.size)).mono L1.o.size)⟩
   have hup:=up1_ok HIM.o.2.1 HIM.o.1.len hv
   have hri:=(fit1_ck HIM.o.2.1 HIM.o.1.len).1
   have hv1:1≤iv∧iv≤65535:=hri.2.1
   have hwr:wrap64 (iv+1)=iv+1:=by first|(unfold wrap64;omega)|(rw [←Mi_];exact IntWalk.i64_in _ (by omega))
   obtain⟨i2,hi2⟩:∃i2,i2=up1 ⟨ip,iv,ih,imm,if_,is_,ir,iA,in_,ic,ixs⟩:=⟨_,rfl⟩
   obtain⟨w5,hw5⟩:∃w5,w5=w4.alloc (.cells #[.int .i64 ip,.int .i64 (iv+1),.int .i64 ih,.int .i64 imm,.int .i64 if_,.int .i64 is_,.int .i64 ir,.slice iA in_ ic] 40):=⟨_,rfl⟩
   have h45:Bw w4 w5:=by rw [hw5];exact (Mb _ _).alloc (Mr _) _
   have IX5:=Hz (show Blk w5 w4.heap.size 40 [.int .i64 ip,.int .i64 (iv+1),.int .i64 ih,.int .i64 imm,.int .i64 if_,.int .i64 is_,.int .i64 ir,.slice iA in_ ic] from by rw [hw5];exact Blk.new w4 _ _)
   have A5:=Hz (A4.o.below h45)
   have hok5:i2.ok w5:=by rw [hi2];exact⟨(HIM.o.1.below A5.o.bel).code,HIM.o.1.byt⟩
   have hlen2:=StoI1.ldI_len i2 (by rw [hi2];exact HIM.o.1.len) (by rw [hi2];exact hup.1)
   have HPU:=Hz (show Calls Tryz.prog 9 #[i2.val] w5 fun e w''=>∃B m d,e=.returned (.tuple #[.slice B m d,.int .i64 0])∧m=(closed (head i2)).length∧Bw w5 w'' from (ImgP.Nt i2 w5 (T3.o.below A5.o.bel T3.o.1) hok5 (by rw [hi2];exact hup.1)).mono fun e w'' ⟨B,m,d,he,hown,hbel⟩=>⟨B,m,d,he,(Rd.nats (Rd.own hown)).symm,hbel⟩)
   have htr7:=HF.o.1.2.1
   have htr7':1≤tr∧tr≤7:=htr7
   obtain⟨tt,htt⟩:∃tt:Nat,tr=tt:=⟨tr.toNat,by omega⟩
   subst htt
   have htt7:tt≤7:=by omega
   have hT4:t'.tr=(tt:Nat):=T4.o.2
   obtain⟨D0,hD0⟩:∃D0,D0=mkD (L.take n1):=⟨_,rfl⟩
   have hr0:(D0.O 0).r=CmtM.one 0:=by rw [hD0];rfl
   have hi00:D0.I 0 0=igOf ⟨ip,iv,ih,imm,if_,is_,ir,iA,in_,ic,ixs⟩:=by rw [hD0];exact HI0.o
   have A5':=A5
   dsimp only at A5'
   rw [←hD0] at A5'
   have hri2:ImgB.right i2:=by rw [hi2];exact hup.1
   have hln2:i2.xs.length=i2.n:=by rw [hi2];exact HIM.o.1.len
   have hck2:ck t' 0 (igOf i2) (D0.I 0 0).v=0:=by rw [T4.o.1,hi00,hi2];exact hup.2
   have hby2:ShaM.by256 (closed (head i2)):=closed_lt (head_lt (by rw [hi2];exact HIM.o.1.byt))
   have hv2:(igOf i2).v=iv+1:=by rw [hi2];rfl
   have hv0:(D0.I 0 0).v=iv:=by rw [hi00];rfl
   have hp0:0<n1:=by omega
   have HBG:=Hz (fun w' (hb:Bw w5 w')=>(show Calls Tryz.prog 10 #[.pointer (some ⟨Z.z,0,none⟩),.int .i64 0,.int .i64 3,.int .i64 ((closed (head i2)).length:Nat)] w' (Tz w3 F4 ζ g t' n1 Z w' (Tr D0.I (closed (head i2)) 3 0 0)) from
    qqw (A5'.o.below hb) (p:=0) (ses:=3) (xs:=closed (head i2)) hp0 hr0 (by omega) hlen2))
   have HBK:=Hz (fun k (hk:k*16<(closed (head i2)).length) w' (hb:Bw w3 w')=>(show Calls Tryz.prog 12 #[i2.val,.int .i64 (k:Nat),.bool false] w' fun e w''=>∃b,e=.returned (.slice (some ⟨b,0,none⟩) 16 16)∧Rd w'' (some ⟨b,0,none⟩) 16 16 (u8n (bk (closed (head i2)) k))∧w'.heap.size≤b∧Bw w' w'' from by
    have hok3:i2.ok w':=by rw [hi2];exact⟨(HIM.o.1.below hb).code,HIM.o.1.byt⟩
    have h:=LayB.V5 i2 (k:Nat) false w' (T3.o.below hb T3.o.1) hok3 ⟨by omega,by omega⟩
    rw [blB_bk hri2 (by omega) hk] at h
    exact h))
   have HLD:=Hz (fun k (hk:k*16<(closed (head i2)).length) w' F s P D (h:Al w3 w' F ζ g s t' n1 P Z D) (ht:Tr D0.I (closed (head i2)) 3 0 k D) b (hR:Rd w' (some ⟨b,0,none⟩) 16 16 (u8n (bk (closed (head i2)) k))) (hb : ¬F b∧ζ b=.out)=>(show Calls Tryz.prog 11 #[.pointer (some ⟨Z.z,0,none⟩),.int .i64 0,.int .i64 3,.int .i64 (k:Nat),.slice (some ⟨b,0,none⟩) 16 16] w' (Tz w3 F ζ g t' n1 Z w' (Tr D0.I (closed (head i2)) 3 0 (k+1))) from
    qvy h (p:=0) hp0 ht (by unfold blocks;omega) (by omega) hby2 (by omega) _ 16 16 hR (fun b' o' e=>by
     injection e with e
     injection e with e1 _
     subst e1
     exact hb)))
   have HSE:=Hz (fun k (hk:k=blocks ((closed (head i2)).length:Nat)) w' F s P D (h:Al w3 w' F ζ g s t' n1 P Z D) (ht:Tr D0.I (closed (head i2)) 3 0 k D)=>(show Calls Tryz.prog 13 #[.pointer (some ⟨Z.z,0,none⟩),.int .i64 0,.int .i64 3] w' (Tz w3 F ζ g t' n1 Z w' (Tb D0.I (igOf i2) tt 0 0)) from
    qvz h T3.o (p:=0) hp0 hT4 htt7 i2 hln2 hri2 (by rw [←hk];exact ht) hck2))
   have HBT:=Hz (fun m w' (ζ:Nat→Zl) (Z:Lo) (t':Ta) F s P D (ht:t'.tr=((tt:Nat):Int)) (h:Al w3 w' F ζ g s t' n1 P Z D) (hb:Tb D0.I (igOf i2) tt 0 m D)=>(show Calls Tryz.prog 16 #[.pointer (some ⟨Z.z,0,none⟩),.int .i64 0] w' (Tbt w3 F ζ g t' n1 Z w' D0.I (igOf i2) tt 0 m) from
    al_boot h T3.o (p:=0) hp0 ht htt7 hb))
   have HBX:=Hz (show Bq w5 F4 ζ w4.heap.size 40 [.int .i64 ip,.int .i64 (iv+1),.int .i64 ih,.int .i64 imm,.int .i64 if_,.int .i64 is_,.int .i64 ir,.slice iA in_ ic] from⟨IX5.o,fun hh=>by have:=A4.o.dz.dk.lt _ hh;omega,Mc_ fun hh=>by have:=A4.o.dz.zm.lt _ hh;omega⟩)
   have HV:=Hz (And.intro hv2 hv0)
   have hxl:=hlen2
   obtain⟨xs,hxs⟩:∃xs,xs=closed (head i2):=⟨_,rfl⟩
   rw [←hxs] at HBG HBK HLD HSE hxl HPU
   have HPU2:Hid (Calls Tryz.prog 9 #[.agg #[.int .i64 ip,.int .i64 (iv+1),.int .i64 ih,.int .i64 imm,.int .i64 if_,.int .i64 is_,.int .i64 ir,.slice iA in_ ic]] w5 fun e w''=>∃B m d,e=.returned (.tuple #[.slice B m d,.int .i64 0])∧m=xs.length∧Bw w5 w''):=by
    have h:=HPU.o
    rw [hi2] at h
    exact Hz h
   have HBK2:Hid (∀k,k*16<xs.length→∀w',Bw w3 w'→Calls Tryz.prog 12 #[.agg #[.int .i64 ip,.int .i64 (iv+1),.int .i64 ih,.int .i64 imm,.int .i64 if_,.int .i64 is_,.int .i64 ir,.slice iA in_ ic],.int .i64 (k:Nat),.bool false] w' fun e w''=>∃b,e=.returned (.slice (some ⟨b,0,none⟩) 16 16)∧Rd w'' (some ⟨b,0,none⟩) 16 16 (u8n (bk xs k))∧w'.heap.size≤b∧Bw w' w''):=by
    have h:=HBK.o
    rw [hi2] at h
    exact Hz h
   clear HPU HBK hri2 hln2 hck2 hby2 hv2 hv0 hlen2 hok5 hup hri hxs hi00 hr0 hT4 htr7 htr7'
   obtain⟨j2,hj2⟩:∃j2,j2=igOf i2:=⟨_,rfl⟩
   rw [←hj2] at HSE HBT HV
   obtain⟨I0,hI0⟩:∃I0,I0=D0.I:=⟨_,rfl⟩
   rw [←hI0] at HBG HLD HSE HBT HV
   clear hj2 hI0 hi2 hD0
   go_upto_region 12 with (fail)
   rw [←hw5]
   clear hw5
   go_wp2_with (first
    | (refine Qj rfl 40 (.tmp 10) rfl w4.heap.size rfl (show Blk _ w4.heap.size 40 [.int .i64 ip,.int .i64 (iv+1),.int .i64 ih,.int .i64 imm,.int .i64 if_,.int .i64 is_,.int .i64 ir,.slice iA in_ ic] from IX5.o) Tryz.underlying40 rfl StoLd.Yy ?_)
    | (go_at_call 9;refine HPU2.o.mono ?_;rintro e w6 ⟨B6,m6,d6,rfl,rfl,hb6⟩;have L6:=Hz hb6;clear hb6))
   refine (HBG.o _ L6.o).mono ?_
   rintro e w7 ⟨rfl,F7,s7,P7,D7,hal7,htr7,hkz7⟩
   have Q7:=Hz (show ∃F s P D,Al w3 w7 F ζ g s t' n1 P Z D∧Tr I0 xs 3 0 0 D∧Bq w7 F ζ w4.heap.size 40 [.int .i64 ip,.int .i64 (iv+1),.int .i64 ih,.int .i64 imm,.int .i64 if_,.int .i64 is_,.int .i64 ir,.slice iA in_ ic] from⟨F7,s7,P7,D7,hal7,htr7,(HBX.o.below L6.o).kz hkz7⟩)
   clear hal7 htr7 hkz7 HBG HPU2 A5' z0 z1 z2 z3 z4 z5 z6 z7 a5
   go_wp2_with fail
   go_loopw [13] (fun i wr=>∃k:Nat,k*16<xs.length+16∧i=.int .i64 (k:Nat)∧Hid (∃F s P D,Al w3 wr F ζ g s t' n1 P Z D∧Tr I0 xs 3 0 k D∧Bq wr F ζ w4.heap.size 40 [.int .i64 ip,.int .i64 (iv+1),.int .i64 ih,.int .i64 imm,.int .i64 if_,.int .i64 is_,.int .i64 ir,.slice iA in_ ic])) (fun i _=>100-(intOf i).toNat)
   case atStart=>exact⟨0,by omega,rfl,Q7⟩
   case round=>
    obtain⟨k,hk,rfl,HK⟩:=hrel
    clear Q7
    have hkb1:(k:Int)*16≤1000:=by omega
    have hkb0:0≤(k:Int)*16:=by omega
    obtain⟨wo,rfl⟩:∃wo,wo=wr:=⟨_,rfl⟩
    obtain⟨F8,s8,P8,D8,hal,htr,hbq⟩:=HK.o
    by_cases hlt:(k:Int)*16<(xs.length:Int)
    ·have HB8:=Hz (HBK2.o k (by omega) wo hal.bel)
     have HL8:=Hz (fun w' (hb:Bw wo w') b hR hn=>HLD.o k (by omega) w' F8 s8 P8 D8 (hal.below hb) htr b hR hn)
     have HZ8:=Hz (And.intro hal.dz.dk.lt hal.dz.zm.lt)
     have HQ8:=Hz hbq
     clear hal htr hbq
     go_wp2_with (first
      | (refine Qj rfl 40 (.tmp 10) rfl w4.heap.size rfl (show Blk _ w4.heap.size 40 [.int .i64 ip,.int .i64 (iv+1),.int .i64 ih,.int .i64 imm,.int .i64 if_,.int .i64 is_,.int .i64 ir,.slice iA in_ ic] from HQ8.o.blk) Tryz.underlying40 rfl StoLd.Yy ?_)
      | (go_at_call 12;refine HB8.o.mono ?_;rintro e w5 ⟨b5,rfl,hR5,hn5,hb5⟩;have R5:=Hz (And.intro hR5 (And.intro hn5 hb5));clear hR5 hn5 hb5)
      | (go_at_call 11;refine (HL8.o _ R5.o.2.2 b5 R5.o.1 ⟨fun hh=>by have:=HZ8.o.1 _ hh;have:=R5.o.2.1;omega,Mc_ fun hh=>by have:=HZ8.o.2 _ hh;have:=R5.o.2.1;omega⟩).mono ?_;rintro e w6 ⟨rfl,F6,s6,P6,D6,hal6,htr6,hkz6⟩;have H6:=Hz (show ∃F s P D,Al w3 w6 F ζ g s t' n1 P Z D∧Tr I0 xs 3 0 (k+1) D∧Bq w6 F ζ w4.heap.size 40 [.int .i64 ip,.int .i64 (iv+1),.int .i64 ih,.int .i64 imm,.int .i64 if_,.int .i64 is_,.int .i64 ir,.slice iA in_ ic] from⟨F6,s6,P6,D6,hal6,htr6,(HQ8.o.below R5.o.2.2).kz hkz6⟩);clear hal6 htr6 hkz6))
     go_roundw
     case rel=>exact⟨k+1,by omega,by go_num,H6⟩
     case measure=>simp [intOf];omega
    ·have HS8:=Hz (HSE.o k (by unfold blocks;omega) wo F8 s8 P8 D8 hal htr)
     have HQ8:=Hz hbq
     clear hal htr hbq HBK2 HLD HSE
     go_wp2_with (go_at_call 13;refine HS8.o.mono ?_;rintro e w9 ⟨rfl,F9,s9,P9,D9,hal9,htb9,hkz9⟩;have H9:=Hz (show ∃F s P D,Al w3 w9 F ζ g s t' n1 P Z D∧Tb I0 j2 tt 0 0 D∧Bq w9 F ζ w4.heap.size 40 [.int .i64 ip,.int .i64 (iv+1),.int .i64 ih,.int .i64 imm,.int .i64 if_,.int .i64 is_,.int .i64 ir,.slice iA in_ ic] from⟨F9,s9,P9,D9,hal9,htb9,HQ8.o.kz hkz9⟩);clear hal9 htb9 hkz9)
     have LP9:=Hz (show Lp w3 g n1 Z.z I0 j2 tt 0 w4.heap.size 40 [.int .i64 ip,.int .i64 (iv+1),.int .i64 ih,.int .i64 imm,.int .i64 if_,.int .i64 is_,.int .i64 ir,.slice iA in_ ic] ⟨fr,A1,n1,c1,TP,A2,n2,c2,TW,A3,n3,c3,TC,tt⟩ w9 from by
      obtain⟨F9,s9,P9,D9,h1,h2,h3⟩:=H9.o
      exact⟨F9,ζ,Z,t',s9,P9,D9,rfl,h1,h2,h3,T4.o.2,T4.o.1⟩)
     clear H9 HQ8 HS8 HBT HK
     obtain⟨nb,hnb⟩:∃nb:Nat,nb=1+bo%10:=⟨_,rfl⟩
     rw [show (1+(bo:Int)%10)=(nb:Int) from by omega]
     have hnb10:nb≤10:=by omega
     have hyt:=Y3.o.t
     have HOP:=Hz (fun (k:Nat) w' (h:Lq w3 g n1 I0 j2 tt k w4.heap.size 40 [.int .i64 ip,.int .i64 (iv+1),.int .i64 ih,.int .i64 imm,.int .i64 if_,.int .i64 is_,.int .i64 ir,.slice iA in_ ic] ⟨fr,A1,n1,c1,TP,A2,n2,c2,TW,A3,n3,c3,TC,tt⟩ w')=>h.open hyt HF.o.1 T3.o rfl rfl)
     clear hyt hnb
     go_loopw [7,75] (fun z i wr=>∃k zz:Nat,k≤nb∧i=.int .i64 (k:Nat)∧z=.pointer (some ⟨zz,0,none⟩)∧Hid (Lp w3 g n1 zz I0 j2 tt k w4.heap.size 40 [.int .i64 ip,.int .i64 (iv+1),.int .i64 ih,.int .i64 imm,.int .i64 if_,.int .i64 is_,.int .i64 ir,.slice iA in_ ic] ⟨fr,A1,n1,c1,TP,A2,n2,c2,TW,A3,n3,c3,TC,tt⟩ wr)) (fun _ i _=>nb-(intOf i).toNat)
     case atStart=>exact⟨0,Z.z,by omega,rfl,rfl,LP9⟩
     case round=>
      obtain⟨k,zz,hk,rfl,rfl,HK⟩:=hrel
      clear LP9
      obtain⟨wp,rfl⟩:∃wp,wp=wr:=⟨_,rfl⟩
      by_cases hlt:(k:Int)<(nb:Int)
      ·have hbit:=DskE.kb_bits (K:=kp) (k:=k) hkp
       rw [Nat.min_eq_left (show k≤64 from by omega)] at hbit
       obtain⟨wB,hwB⟩:∃wB,wB=wp:=⟨_,rfl⟩
       obtain⟨zB,hzB⟩:∃zB,zB=zz:=⟨_,rfl⟩
       have HLB:Hid (Lp w3 g n1 zB I0 j2 tt k w4.heap.size 40 [.int .i64 ip,.int .i64 (iv+1),.int .i64 ih,.int .i64 imm,.int .i64 if_,.int .i64 is_,.int .i64 ir,.slice iA in_ ic] ⟨fr,A1,n1,c1,TP,A2,n2,c2,TW,A3,n3,c3,TC,tt⟩ wB):=Hz (by rw [hwB,hzB];exact HK.o)
       have HPW:=Hz (HK.o.power kp hkp)
       have HKB:=Hz HK.o.bel
       clear HK
       cases hkb:DskE.kb kp k
       focus
        rw [hkb] at hbit
        rw [←hzB,←hwB]
        clear hkb HPW hwB hzB
       rotate_left 1
       focus
        rw [hkb] at hbit
        clear hkb hwB hzB HLB wB zB
        have r0:=(BX3.o.below HKB.o).cell
        dsimp only at r0
        go_upto_region 27 with (go_at_call 14;refine HPW.o.mono ?_;rintro e wq ⟨rfl,hq⟩;have HQ:=Hz hq;clear hq)
        clear r0 hbit
        have hbq:=BX3.o.below HQ.o.bel
        have HYB:=Hz hbq
        obtain⟨y0,y1,y2,y3,y4,_⟩:=hbq.cell
        dsimp only at y0 y1 y2 y3 y4
        go_upto_region 31 with (go_at_call 15;refine (HOP.o k _ HQ.o).mono ?_;rintro e wB ⟨zB,rfl,hl⟩;have HLB:=Hz hl;clear hl)
        clear y0 y1 y2 y3 y4 HQ HPW HYB
       all_goals
        by_cases hkt:(tt:Int)≤(k:Int)
        ·obtain⟨ra,rb',rc,hrv⟩:=Lh tt (k+1)
         rw [if_neg (by omega)] at hrv
         have HBo:=Hz ((HLB.o.boot T3.o hp0 htt7).mono (show ∀e w',_→∃(i1 i3 i4 i5 i6 i7:Int) (B:Option Addr) (m d:Nat),e=.returned (.tuple #[.agg #[.int .i64 i1,.int .i64 iv,.int .i64 i3,.int .i64 i4,.int .i64 i5,.int .i64 i6,.int .i64 i7,.slice B m d],.int .i64 0])∧Lp w3 g n1 zB I0 j2 tt (k+1) w4.heap.size 40 [.int .i64 ip,.int .i64 (iv+1),.int .i64 ih,.int .i64 imm,.int .i64 if_,.int .i64 is_,.int .i64 ir,.slice iA in_ ic] ⟨fr,A1,n1,c1,TP,A2,n2,c2,TW,A3,n3,c3,TC,tt⟩ w' from fun e w' ⟨i',B,m,d,he,hi,hl⟩=>by
          have hv:i'.v=iv:=by rw [hi,if_neg (by omega)];exact HV.o.2
          rw [hv] at he
          exact⟨_,_,_,_,_,_,B,m,d,he,hl⟩))
         clear HLB
         go_upto_region 32 with (go_at_call 16;refine HBo.o.mono ?_;rintro e w10 ⟨i1,i3,i4,i5,i6,i7,B,m,d,rfl,hl⟩;have HLC:=Hz hl;clear hl)
         obtain⟨wC,hwC⟩:∃wC,wC=w10.alloc (.cells #[.int .i64 i1,.int .i64 iv,.int .i64 i3,.int .i64 i4,.int .i64 i5,.int .i64 i6,.int .i64 i7,.slice B m d] 40):=⟨_,rfl⟩
         have hbC:Bw w10 wC:=by rw [hwC];exact (Mb _ _).alloc (Mr _) _
         have LC:=Hz (HLC.o.below hbC)
         have XC:Hid (Blk wC w10.heap.size 40 [.int .i64 i1,.int .i64 iv,.int .i64 i3,.int .i64 i4,.int .i64 i5,.int .i64 i6,.int .i64 i7,.slice B m d]):=Hz (by rw [hwC];exact Blk.new w10 _ _)
         rw [←hwC]
         clear hwC hbC HLC HBo
         have q1:=XC.o.cell (i:=1) rfl
         have q2:=LC.o.blk.cell (i:=1) rfl
         have q3:=(BX3.o.below LC.o.bel).cell.2.2.2.2.1
         dsimp only at q3
         go_upto_region 35 with (fail)
         have HBd:=Hz ((Mb wC.heap.size wC).drew)
         have kf:=fun wx=>Fld.Jv (P:=Tryz.prog) (xs:=[.int .i64 0,.int .i64 ra,.int .i64 rb',.int .i64 0,.int .i64 rc,.int .i64 2]) (k:=5) Tryz.underlying54 rfl ⟨_,Tryz.underlying3⟩ rfl wx
         have HRc:=Hz (fun w' (hb:Bw wC w')=>(hrv▸(LC.o.below hb).rec hp0:Calls Tryz.prog 17 #[.pointer (some ⟨zB,0,none⟩),.int .i64 0] w' fun e w''=>e=.returned (.agg #[.int .i64 0,.int .i64 ra,.int .i64 rb',.int .i64 0,.int .i64 rc,.int .i64 2])∧Bw w' w''))
         clear hrv
         go_region_held3 (fun w'=>w'.cell? ⟨w10.heap.size,1,none⟩=some (.int .i64 iv)∧w'.cell? ⟨w.heap.size,4,none⟩=some (.int .i64 (tt:Nat)))
          (first|go_keep|exact HC1.o)
          (first|(go_at_call 17;refine (HRc.o _ HBd.o).mono ?_;rintro e xs1 ⟨rfl,hbe⟩;have HE1:=Hz (HBd.o.trans (hbe.mono HBd.o.size));have HC1:=Hz (And.intro ((XC.o.below HE1.o).cell (i:=1) rfl) (show xs1.cell? ⟨w.heap.size,4,none⟩=some (.int .i64 (tt:Nat)) from (BX3.o.below (LC.o.below HE1.o).bel).cell.2.2.2.2.1));clear hbe))
         all_goals
          go_wp2_with fail
          go_roundw
          case rel=>exact⟨k+1,zB,by omega,by go_num,rfl,Hz (LC.o.below HE1.o)⟩
          case measure=>simp [intOf];omega
        ·obtain⟨ra,rb',rc,hrv⟩:=Lh tt (k+1)
         rw [if_pos (by omega)] at hrv
         have HBo:=Hz ((HLB.o.boot T3.o hp0 htt7).mono (show ∀e w',_→∃(i1 i3 i4 i5 i6 i7:Int) (B:Option Addr) (m d:Nat),e=.returned (.tuple #[.agg #[.int .i64 i1,.int .i64 (iv+1),.int .i64 i3,.int .i64 i4,.int .i64 i5,.int .i64 i6,.int .i64 i7,.slice B m d],.int .i64 0])∧Lp w3 g n1 zB I0 j2 tt (k+1) w4.heap.size 40 [.int .i64 ip,.int .i64 (iv+1),.int .i64 ih,.int .i64 imm,.int .i64 if_,.int .i64 is_,.int .i64 ir,.slice iA in_ ic] ⟨fr,A1,n1,c1,TP,A2,n2,c2,TW,A3,n3,c3,TC,tt⟩ w' from fun e w' ⟨i',B,m,d,he,hi,hl⟩=>by
          have hv:i'.v=(iv+1):=by rw [hi,if_pos (by omega)];exact HV.o.1
          rw [hv] at he
          exact⟨_,_,_,_,_,_,B,m,d,he,hl⟩))
         clear HLB
         go_upto_region 32 with (go_at_call 16;refine HBo.o.mono ?_;rintro e w10 ⟨i1,i3,i4,i5,i6,i7,B,m,d,rfl,hl⟩;have HLC:=Hz hl;clear hl)
         obtain⟨wC,hwC⟩:∃wC,wC=w10.alloc (.cells #[.int .i64 i1,.int .i64 (iv+1),.int .i64 i3,.int .i64 i4,.int .i64 i5,.int .i64 i6,.int .i64 i7,.slice B m d] 40):=⟨_,rfl⟩
         have hbC:Bw w10 wC:=by rw [hwC];exact (Mb _ _).alloc (Mr _) _
         have LC:=Hz (HLC.o.below hbC)
         have XC:Hid (Blk wC w10.heap.size 40 [.int .i64 i1,.int .i64 (iv+1),.int .i64 i3,.int .i64 i4,.int .i64 i5,.int .i64 i6,.int .i64 i7,.slice B m d]):=Hz (by rw [hwC];exact Blk.new w10 _ _)
         rw [←hwC]
         clear hwC hbC HLC HBo
         have q1:=XC.o.cell (i:=1) rfl
         have q2:=LC.o.blk.cell (i:=1) rfl
         have q3:=(BX3.o.below LC.o.bel).cell.2.2.2.2.1
         dsimp only at q3
         go_upto_region 35 with (fail)
         have HBd:=Hz ((Mb wC.heap.size wC).drew)
         have kf:=fun wx=>Fld.Jv (P:=Tryz.prog) (xs:=[.int .i64 0,.int .i64 ra,.int .i64 rb',.int .i64 0,.int .i64 rc,.int .i64 0]) (k:=5) Tryz.underlying54 rfl ⟨_,Tryz.underlying3⟩ rfl wx
         have HRc:=Hz (fun w' (hb:Bw wC w')=>(hrv▸(LC.o.below hb).rec hp0:Calls Tryz.prog 17 #[.pointer (some ⟨zB,0,none⟩),.int .i64 0] w' fun e w''=>e=.returned (.agg #[.int .i64 0,.int .i64 ra,.int .i64 rb',.int .i64 0,.int .i64 rc,.int .i64 0])∧Bw w' w''))
         clear hrv
         go_region_held3 (fun w'=>w'.cell? ⟨w10.heap.size,1,none⟩=some (.int .i64 (iv+1))∧w'.cell? ⟨w.heap.size,4,none⟩=some (.int .i64 (tt:Nat)))
          (first|go_keep|exact HC1.o)
          (first|(go_at_call 17;refine (HRc.o _ HBd.o).mono ?_;rintro e xs1 ⟨rfl,hbe⟩;have HE1:=Hz (HBd.o.trans (hbe.mono HBd.o.size));have HC1:=Hz (And.intro ((XC.o.below HE1.o).cell (i:=1) rfl) (show xs1.cell? ⟨w.heap.size,4,none⟩=some (.int .i64 (tt:Nat)) from (BX3.o.below (LC.o.below HE1.o).bel).cell.2.2.2.2.1));clear hbe))
         all_goals
          go_wp2_with fail
          go_roundw
          case rel=>exact⟨k+1,zB,by omega,by go_num,rfl,Hz (LC.o.below HE1.o)⟩
          case measure=>simp [intOf];omega
      ·obtain rfl:k=nb:=by omega
       obtain⟨ra,rb',rc,hrv⟩:=Lh tt k
       have HRc:=Hz (hrv▸HK.o.rec hp0)
       have HL9:=Hz HK.o.bel
       obtain⟨bad,hbad⟩:∃bad:Int,bad=(if k≤tt then 0 else 2):=⟨_,rfl⟩
       rw [←hbad] at HRc
       have kf:=fun wx=>Fld.Jv (P:=Tryz.prog) (xs:=[.int .i64 0,.int .i64 ra,.int .i64 rb',.int .i64 0,.int .i64 rc,.int .i64 bad]) (k:=3) Tryz.underlying54 rfl ⟨_,Tryz.underlying3⟩ rfl wx
       clear hrv hbad HK
       go_wp2_with (go_at_call 17;refine HRc.o.mono ?_;rintro e w7 ⟨rfl,hb7⟩;have L7:=Hz hb7;clear hb7)
       go_ret
       exact⟨rfl,L1.o.trans ((L3.o.trans ((HL9.o.trans (L7.o.mono HL9.o.size)).mono L3.o.size)).mono L1.o.size)⟩
theorem hole {H:Type} (enc:TypeId×Value→H) (base:Nat) (v0:Value) (d0:DataW H) (p0:List MemPlace) (a1 a2:Int) (w:World) (w0:DataW.Trod enc Tryz.prog w 0 (fun _=>true) true 29 v0 d0 p0) (o0:Value.okWide Tryz.prog w .any base 29 v0) (w1:(Lit.int .u8 a1).wf=true) (w2:(Lit.int .u64 a2).wf=true) (hT:Tab w) :
 Calls Tryz.prog 3 #[v0,.int .u8 a1,.int .u64 a2] w fun e w'=>e=.returned (.bool true)∧Bw w w':=by
 obtain⟨y,rfl,hy⟩:=Lay.qx3 w0 o0
 have h1:=bounds_u8 w1
 have h2:=bounds_u64 w2
 obtain⟨b,rfl⟩:∃b:Nat,a1=b:=⟨a1.toNat,by omega⟩
 obtain⟨k,rfl⟩:∃k:Nat,a2=k:=⟨a2.toNat,by omega⟩
 exact core y b k w hy (by omega) (by omega) hT
end StoreTrialsW
end Go.Proofs.YtecncggeomcdbaaGreatDoor
