/- Parts of the proof, each under the conditions that it names. -/
import Derived.Test.YtecncggeomcdbaaGreatDoorT17
set_option maxRecDepth 100000
set_option maxHeartbeats 12800000
namespace Go.Proofs.YtecncggeomcdbaaGreatDoor
open Go.RowKit
namespace StgN
open Kit Byt Mem DskA DskD DskF RecM StgM
open RecA (sval scells sok n64)
open BitM (hb pw)
open BitB (wv)
theorem qqo {k:Nat} (hk:k≤9) (w:World):Calls Tryz.prog 85 #[.int .i64 (k:Nat)] w fun e w'=>e=.returned (.tuple #[.int .i64 ((k/4:Nat):Int),.int .i64 ((16*(k%4):Nat):Int),.bool true])∧Bw w w':=by
 have h:=PlaN.V5 (k:Int) w (n64_nat (by omega))
 rw [show PlaN.bi (k:Int)=((k/4:Nat):Int) from by unfold PlaN.bi;rw [if_pos (by omega)];omega,show PlaN.bf (k:Int)=((16*(k%4):Nat):Int) from by unfold PlaN.bf;rw [if_pos (by omega)];omega,show PlaN.bb (k:Int)=true from by unfold PlaN.bb;exact decide_eq_true_iff.2 (by omega)] at h
 exact h
theorem img_no {w w':World} {s:St} {i:Nat} {e:Ending} (hd:s.down=true) (h:Img w s i e w'):Bw w w'∧∃A n,e=.returned (.tuple #[.agg #[.int .i64 (i:Int),.slice A n n],.int .i64 8]):=by
 obtain⟨h1,A,n,h2,_⟩:=h
 rw [if_pos hd] at h2
 exact⟨h1,A,n,h2⟩
theorem qva {w w':World} {s:St} {i:Nat} {e:Ending} (hd:s.down=false) (h:Img w s i e w'):Bw w w'∧∃b,e=.returned (.tuple #[.agg #[.int .i64 (i:Int),.slice (some ⟨b,0,none⟩) 64 64],.int .i64 0])∧Blk w' b 5 (u8n (now s i))∧w.heap.size≤b∧(now s i).length=64:=by
 obtain⟨h1,A,n,h2,h3⟩:=h
 rw [if_neg (by rw [hd];simp)] at h2
 obtain⟨rfl,h4⟩:=h3.o hd
 obtain⟨b,rfl,_⟩:=DskB.Vj h4 (by omega)
 have hl:=h4.1
 rw [Qv] at hl
 exact⟨h1,b,h2,(blk_of_own h4).1,(blk_of_own h4).2,by omega⟩
theorem qwj {w w4:World} {F J:Nat→Prop} {g a:Nat} {s:St} {t:Slt} (h:DS w F J g a s t) (L4:Bw w w4) {b:Nat} {sb:List Nat} (HB4:Blk w4 b 5 (u8n sb)) (hb:w.heap.size≤b) (hl:sb.length=64) {u:Nat} (hu:u<s.S.length) {nx:Sg} (hk:sok nx) (hr:nx.right) (o:Obj) :
 Calls Tryz.prog 82 #[.pointer (some ⟨a,0,none⟩),sval nx,.slice (some ⟨w4.heap.size+1,0,none⟩) 1 1] ((w4.alloc o).alloc (.cells #[.int .i64 (u:Nat),.slice (some ⟨b,0,none⟩) 64 64] 159)) (Sgo F J g a w (.int .i64 (pQ s [(u,sb),(t.at_,shut nx.bytes)]).2) (pQ s [(u,sb),(t.at_,shut nx.bytes)]).1 (became t true nx (pQ s [(u,sb),(t.at_,shut nx.bytes)]).2)):=by
 have hs4:=L4.size
 have L5:Bw w (w4.alloc o):=L4.alloc L4.size o
 have L6:=L5.alloc L5.size (.cells #[.int .i64 (u:Nat),.slice (some ⟨b,0,none⟩) 64 64] 159)
 have hB6:=(HB4.alloc o).alloc (.cells #[.int .i64 (u:Nat),.slice (some ⟨b,0,none⟩) 64 64] 159)
 have hS6:=Blk.new (w4.alloc o) 159 (stepc u (some ⟨b,0,none⟩) 64 64)
 have hz:(w4.alloc o).heap.size=w4.heap.size+1:=Ms _ _
 rw [hz] at hS6
 have hlt:=h.lt
 have hbl:=HB4.lt
 have hown:((w4.alloc o).alloc (.cells #[.int .i64 (u:Nat),.slice (some ⟨b,0,none⟩) 64 64] 159)).ownsRow w.heap.size 159 2 (.slice (some ⟨w4.heap.size+1,0,none⟩) 1 1) 1 (stc [⟨u,some ⟨b,0,none⟩,64,sb⟩]):=
  ⟨rfl,.inr ⟨w4.heap.size+1,1,_,rfl,by omega,hS6,by omega,by unfold maxLen;omega,rfl,rfl⟩⟩
 exact qqm L6 h nx hk hr _ 1 1 [⟨u,some ⟨b,0,none⟩,64,sb⟩] (by omega) hown (fun e he=>by
  rw [List.mem_singleton.1 he]
  refine⟨⟨blk_rd hB6 hl (by omega),fun q o' hA hF=>?_,hu⟩,fun q o' hA=>⟨fun hJ=>?_,fun e'=>?_⟩⟩
  ·have h1:=hlt q (.inl hF)
   injection hA with hA
   injection hA with hA _
   omega
  ·have h1:=hlt q (.inr hJ)
   injection hA with hA
   injection hA with hA _
   omega
  ·injection hA with hA
   injection hA with hA _
   have e2:w4.heap.size+1=q:=by
    have:some (w4.heap.size+1)=some q:=e'
    injection this
   omega)
section
variable {F J:Nat→Prop} {g a:Nat} {s:St} {t:Slt} {D:Option Addr} {d k:Nat} {xs:List Nat} {w:World}
theorem qwk (h:DS w F J g a s t) (hg:t.g.right) (_hm:xs.length=16) (h1:t.has=true) (hk:k<blocks t.g.z) (h5:hb t.g.h k=false) (hd:s.down=true) :
 Calls Tryz.prog 39 #[.pointer (some ⟨a,0,none⟩),.int .i64 t.g.s,.int .i64 (k:Nat),.slice D 16 d] w (Sgo F J g a w (.int .i64 8) s t):=by
 have hk10:k≤9:=by have:=Jn hg.2.1.2;omega
 obtain⟨_,_,_,c3,c4,c5⟩:=h.sm.cells
 have HS:=Hz (show Calls Tryz.prog 83 #[.pointer (some ⟨a,0,none⟩)] w fun e w'=>e=.returned (.bool true)∧w=w' from by have:=staged_any h.sm;rw [h1] at this;exact this)
 have HB:=Hz (fun w'=>RecG.blocks_any t.g.z w' h.sm.ok.z)
 have HH:=Hz (show ∀w',Calls Tryz.prog 84 #[.int .i64 t.g.h,.int .i64 (k:Nat)] w' fun e w''=>e=.returned (.bool false)∧w'=w'' from fun w'=>by have:=BitO.has_any t.g.h k w';rw [h5] at this;exact this)
 have HP:=Hz (fun w'=>qqo hk10 w')
 have HIM:=Hz (fun w' (hb:Bw w w')=>(image_any (h.below hb) (k/4) (by omega)).mono fun _ _=>img_no hd)
 have H:=Hz h
 obtain⟨gs,hgs⟩:∃gs,gs=t.g.s:=⟨_,rfl⟩
 obtain⟨gz,hgz⟩:∃gz,gz=t.g.z:=⟨_,rfl⟩
 obtain⟨gh,hgh⟩:∃gh,gh=t.g.h:=⟨_,rfl⟩
 obtain⟨B,hB⟩:∃B,B=blocks t.g.z:=⟨_,rfl⟩
 obtain⟨q,hq⟩:∃q,q=k/4:=⟨_,rfl⟩
 obtain⟨o,ho⟩:∃o,o=16*(k%4):=⟨_,rfl⟩
 rw [←hq] at HP HIM
 rw [←ho] at HP
 rw [←hB] at HB hk
 rw [←hgz] at HB c4
 rw [←hgs] at c3 ⊢
 rw [←hgh] at c5 HH
 have h30 : ¬((k:Int)<0):=by omega
 have h31 : ¬((B:Int)≤(k:Int)):=by omega
 clear h hg _hm h1 h5 hd hgs hgz hgh hB hq ho hk
 go_enter Tryz.func39,Tryz.ntmps39
 go_wp2_with (first
  | (go_at_call 83;refine HS.o.mono ?_;rintro e w1 ⟨rfl,rfl⟩)
  | (go_at_call 77;refine (HB.o _).mono ?_;rintro e w1 ⟨rfl,rfl⟩)
  | (go_at_call 84;refine (HH.o _).mono ?_;rintro e w1 ⟨rfl,rfl⟩)
  | (go_at_call 85;refine (HP.o _).mono ?_;rintro e w1 ⟨rfl,hb1⟩;have L1:=Hz hb1;clear hb1)
  | (go_at_call 86;refine (HIM.o _ L1.o).mono ?_;rintro e w2 ⟨hb2,A,n,rfl⟩;have L2:=Hz (L1.o.trans (hb2.mono L1.o.size));clear hb2))
 go_ret
 have L3:=L2.o.alloc L2.o.size (.cells #[.int .i64 (t.dat q:Nat),.slice A n n] 159)
 exact Sgo.disk H.o (H.o.dk.below L3) (Keep.of_below L3) fun i hi=>.inl hi
theorem qwl (h:DS w F J g a s t) (hg:t.g.right) (hR:Rd w D 16 d (u8n xs)) (h1:t.has=true) (hk:k<blocks t.g.z) (h5:hb t.g.h k=false) (hd:s.down=false) :
 Calls Tryz.prog 39 #[.pointer (some ⟨a,0,none⟩),.int .i64 t.g.s,.int .i64 (k:Nat),.slice D 16 d] w (Sgo F J g a w (.int .i64 (pP s t t.g.s k xs).2.2) (pP s t t.g.s k xs).1 (pP s t t.g.s k xs).2.1):=by
 have hm:xs.length=16:=Rd.nats hR
 have hk10:k≤9:=by have:=Jn hg.2.1.2;omega
 obtain⟨_,_,_,c3,c4,c5⟩:=h.sm.cells
 have HS:=Hz (show Calls Tryz.prog 83 #[.pointer (some ⟨a,0,none⟩)] w fun e w'=>e=.returned (.bool true)∧w=w' from by have:=staged_any h.sm;rw [h1] at this;exact this)
 have HB:=Hz (fun w'=>RecG.blocks_any t.g.z w' h.sm.ok.z)
 have HH:=Hz (show ∀w',Calls Tryz.prog 84 #[.int .i64 t.g.h,.int .i64 (k:Nat)] w' fun e w''=>e=.returned (.bool false)∧w'=w'' from fun w'=>by have:=BitO.has_any t.g.h k w';rw [h5] at this;exact this)
 have HP:=Hz (fun w'=>qqo hk10 w')
 have HIM:=Hz (fun w' (hb:Bw w w')=>(image_any (h.below hb) (k/4) (by omega)).mono fun _ _=>qva hd)
 have HWI:=Hz (fun w'=>BitO.qwg t.g.h k w' h.sm.ok.h)
 have HRD:=Hz hR
 have HXL:=Hz hm
 have H:=Hz h
 have HPP:=Hz (pP_eq (s:=s) (t:=t) (n:=t.g.s) (no:=(k:Int)) (d:=xs) h1 rfl ⟨by omega,by omega⟩ hm h5)
 have HMR:=Hz (more_right hg hk h5)
 obtain⟨R,hRR⟩:∃R,R=pP s t t.g.s k xs:=⟨_,rfl⟩
 rw [←hRR] at HPP ⊢
 clear hRR
 obtain⟨mg,hmg⟩:∃mg,mg=more t.g k:=⟨_,rfl⟩
 rw [←hmg] at HPP HMR
 have HMG:=Hz (show mg=⟨t.g.s,t.g.z,wv t.g.h k⟩ from hmg)
 obtain⟨gs,hgs⟩:∃gs,gs=t.g.s:=⟨_,rfl⟩
 obtain⟨gz,hgz⟩:∃gz,gz=t.g.z:=⟨_,rfl⟩
 obtain⟨gh,hgh⟩:∃gh,gh=t.g.h:=⟨_,rfl⟩
 obtain⟨B,hB⟩:∃B,B=blocks t.g.z:=⟨_,rfl⟩
 obtain⟨q,hq⟩:∃q,q=k/4:=⟨_,rfl⟩
 obtain⟨o,ho⟩:∃o,o=16*(k%4):=⟨_,rfl⟩
 rw [←hq] at HP HIM
 rw [←ho] at HP
 rw [←hB] at HB hk
 rw [←hgz] at HB c4 HMG
 rw [←hgs] at c3 HMG ⊢
 rw [←hgh] at c5 HH HWI HMG
 obtain⟨gv,hgv⟩:∃gv,gv=wv gh k:=⟨_,rfl⟩
 rw [←hgv] at HWI HMG
 have HEQ:=Hz (And.intro hgs (And.intro hgz hgh))
 have HQO:=Hz (show q=k/4∧o=16*(k%4) from⟨hq,ho⟩)
 have ho48:(o:Int)≤48:=by omega
 have h30 : ¬((k:Int)<0):=by omega
 have h31 : ¬((B:Int)≤(k:Int)):=by omega
 obtain⟨u,hu⟩:∃u,u=t.dat q:=⟨_,rfl⟩
 rw [←hu] at HIM
 have HU:=Hz hu
 obtain⟨nb,hnb⟩:∃nb,nb=now s u:=⟨_,rfl⟩
 rw [←hnb] at HIM
 have HNB:=Hz hnb
 have HTL:=Hz (show ∀(w4:World) (b:Nat),Bw w w4→Blk w4 b 5 (u8n (into nb o xs))→(w.heap.size≤b∧nb.length=64)→∀ob:Obj,Calls Tryz.prog 82 #[.pointer (some ⟨a,0,none⟩),.agg #[.int .i64 gs,.int .i64 gz,.int .i64 gv],.slice (some ⟨w4.heap.size+1,0,none⟩) 1 1] ((w4.alloc ob).alloc (.cells #[.int .i64 (u:Nat),.slice (some ⟨b,0,none⟩) 64 64] 159)) (Sgo F J g a w (.int .i64 R.2.2) R.1 R.2.1) from fun w4 b h4 hB4 hbb ob=>by
  have hf:=h.fits
  have hT:=qwj h h4 hB4 hbb.1 (StgP.Hg hbb.2 (by omega) hm) (u:=u) (by rw [hu,hq];unfold Slt.dat;omega) (nx:=mg) (right_ok HMR.o) HMR.o ob
  have e:sect s t (k:Int).toNat xs=into nb o xs:=by
   unfold sect
   rw [show (k:Int).toNat=k from by omega,←hq,←ho,hnb,hu]
  rw [HPP.o,e,show (k:Int).toNat=k from by omega,←hq,←hu]
  rw [HMG.o] at hT ⊢
  exact hT)
 clear h hg hm hR h1 h5 hd hgs hgz hgh hB hq ho hk hmg hgv hu hnb hk10
 go_enter Tryz.func39,Tryz.ntmps39
 go_wp2_with (first
  | (go_at_call 83;refine HS.o.mono ?_;rintro e w1 ⟨rfl,rfl⟩)
  | (go_at_call 77;refine (HB.o _).mono ?_;rintro e w1 ⟨rfl,rfl⟩)
  | (go_at_call 84;refine (HH.o _).mono ?_;rintro e w1 ⟨rfl,rfl⟩)
  | (go_at_call 85;refine (HP.o _).mono ?_;rintro e w1 ⟨rfl,hb1⟩;have L1:=Hz hb1;clear hb1)
  | (go_at_call 86;refine (HIM.o _ L1.o).mono ?_;rintro e w2 ⟨hb2,b,rfl,hB2,hbb,hl2⟩;have L2:=L1.o.trans (hb2.mono L1.o.size);have L3:=Hz (L2.alloc L2.size (.cells #[.int .i64 (u:Nat),.slice (some ⟨b,0,none⟩) 64 64] 159));have HB3:=Hz (hB2.alloc (.cells #[.int .i64 (u:Nat),.slice (some ⟨b,0,none⟩) 64 64] 159));have HR3:=Hz (HRD.o.below L3.o);have HBB:=Hz (show w.heap.size≤b∧b<w2.heap.size∧nb.length=64 from⟨Ml L1.o.size hbb,hB2.lt,hl2⟩);have HS3:=Hz (Blk.new w2 159 (stepc u (some ⟨b,0,none⟩) 64 64));clear hb2 hB2 hbb hl2 L2)
  | (refine Qt rfl (.tmp 73) (.tmp 74) 38 38 rfl 5 Tryz.underlying38 DskB.size8 b o (64-o) (64-o) rfl rfl HR3.o (u8n_one _) HB3.o (by rw [Qv,HBB.o.2.2];omega) ?_;intro w4 m hm hB4 ho4;obtain rfl:m=16:=(by have:=hm.o;omega);have L4:=Hz (ho4.o.below L3.o HBB.o.1 L3.o.size);have HB4:=Hz (show Blk w4 b 5 (u8n (into nb o xs)) from Lu HXL.o▸hB4.o);have HS4:=Hz (ho4.o.blk HS3.o (by have:=HBB.o.2.1;omega));obtain⟨_,_,_,c3',c4',c5'⟩:=(H.o.sm.below L4.o).cells;have hal:=(H.o.sm.below L4.o).blk.lt;obtain⟨e1,e2,e3⟩:=HEQ.o;rw [←e1] at c3';rw [←e2] at c4';rw [←e3] at c5';have s0:w4.cell? ⟨w2.heap.size,0,none⟩=some (.int .i64 (u:Nat)):=HS4.o.cell rfl;have s1:w4.cell? ⟨w2.heap.size,1,none⟩=some (.slice (some ⟨b,0,none⟩) 64 64):=HS4.o.cell rfl;have h24:=HS4.o.lt;clear e1 e2 e3 c3 c4 c5 hm hB4 ho4 HB3 HR3 HS3)
  | (go_at_call 87;refine (HWI.o _).mono ?_;rintro e w5 ⟨rfl,rfl⟩)
  | (go_at_call 82;refine (HTL.o w4 b L4.o HB4.o ⟨HBB.o.1,HBB.o.2.2⟩ _).mono ?_;rintro e w6 ⟨rfl,hgo⟩;have HGO:=Hz hgo;clear hgo))
 go_ret
 exact⟨rfl,HGO.o⟩
end
theorem put_any (F J:Nat→Prop) (g a:Nat) (s:St) (t:Slt) (n no:Int) (D:Option Addr) (m d:Nat) (xs:List Nat) (w:World) (h:DS w F J g a s t) (_:n64 n) (hno:n64 no) (hg:t.has=true→t.g.right) (hR:Rd w D m d (u8n xs)) (_:byt xs) (_:∀b o,D=some ⟨b,o,none⟩→¬F b∧¬J b) :
 Calls Tryz.prog 39 #[.pointer (some ⟨a,0,none⟩),.int .i64 n,.int .i64 no,.slice D m d] w (Sgo F J g a w (.int .i64 (pP s t n no xs).2.2) (pP s t n no xs).1 (pP s t n no xs).2.1):=by
 have hm:xs.length=m:=Rd.nats hR
 have early:(t.has=false∨(t.has=true∧n≠t.g.s)∨(t.has=true∧n=t.g.s∧(no<0∨(blocks t.g.z:Int)≤no))∨(t.has=true∧n=t.g.s∧¬(no<0∨(blocks t.g.z:Int)≤no)∧m≠16)∨(t.has=true∧n=t.g.s∧¬(no<0∨(blocks t.g.z:Int)≤no)∧m=16∧hb t.g.h no=true))→
  Calls Tryz.prog 39 #[.pointer (some ⟨a,0,none⟩),.int .i64 n,.int .i64 no,.slice D m d] w (Sgo F J g a w (.int .i64 (pP s t n no xs).2.2) (pP s t n no xs).1 (pP s t n no xs).2.1):=fun hc=>
  (put_early (D:=D) (d:=d) h hno hm hc).mono fun e w' he=>by
    obtain⟨rfl,h2,rfl⟩:=he
    have e1:(pP s t n no xs).1=s:=by rw [h2]
    have e2:(pP s t n no xs).2.1=t:=by rw [h2]
    rw [e1,e2]
    exact Sgo.disk h h.dk (Keep.refl _ _) fun i hi=>.inl hi
 cases h1:t.has with
 | false=>exact early (.inl h1)
 | true=>
   by_cases h2:n=t.g.s
   ·by_cases h3:no<0∨(blocks t.g.z:Int)≤no
    ·exact early (.inr (.inr (.inl ⟨h1,h2,h3⟩)))
    ·by_cases h4:m=16
     ·cases h5:hb t.g.h no with
      | true=>exact early (.inr (.inr (.inr (.inr ⟨h1,h2,h3,h4,h5⟩))))
      | false=>
        obtain⟨k,rfl⟩:∃k:Nat,no=k:=⟨no.toNat,by omega⟩
        subst h2 h4
        cases hd:s.down with
        | true=>
          rw [pP_down h1 rfl ⟨by omega,by omega⟩ hm h5 hd]
          exact qwk h (hg h1) hm h1 (by omega) h5 hd
        | false=>exact qwl h (hg h1) hR h1 (by omega) h5 hd
     ·exact early (.inr (.inr (.inr (.inl ⟨h1,h2,h3,h4⟩))))
   ·exact early (.inr (.inl ⟨h1,h2⟩))
end StgN
namespace StgN
open Kit Byt DskA DskD DskF RecM StgM
open RecA (sval scells sok n64)
open BitA (miss lim)
def acc (s:St) (t:Slt):Nat→List Nat
 | 0=>[]
 | k+1=>acc s t k++now s (t.dat k)
theorem qvb (s:St) (t:Slt):acc s t 3=now s (t.dat 0)++(now s (t.dat 1)++now s (t.dat 2)):=by simp [acc]
theorem qwm (s:St) (t:Slt) {k z:Nat} (hk:k≤3) (hz:z≤(acc s t k).length):(acc s t 3).take z=(acc s t k).take z:=by
 have:∀m,∃r,acc s t (k+m)=acc s t k++r:=by
  intro m
  induction m with
  | zero=>exact⟨[],by simp⟩
  | succ m ih=>
    obtain⟨r,hr⟩:=ih
    exact⟨r++now s (t.dat (k+m)),by rw [←Nat.add_assoc,acc,hr,List.append_assoc]⟩
 obtain⟨r,hr⟩:=this (3-k)
 rw [show k+(3-k)=3 from by omega] at hr
 rw [hr,List.take_append_of_le_length hz]
theorem Ky {z:Int} (h:z≤160):lim (blocks z:Int)=blocks z:=BitC.lim_nat (by have:=Jn h;omega)
def Ys (w:World) (s:St) (t:Slt) (e:Ending) (w':World):Prop:=
 ∃B m d,e=.returned (.tuple #[.slice B m d,.int .i64 (pY s t).2])∧Rd w' B m d (u8n (pY s t).1)∧Bw w w'∧(∀q o,B=some ⟨q,o,none⟩→w.heap.size≤q)
theorem Ys.empty {w w':World} {s:St} {t:Slt} {e:Int} (h:pY s t=([],e)) (hb:Bw w w'):Ys w s t (.returned (.tuple #[.slice none 0 0,.int .i64 e])) w':=by
 refine⟨none,0,0,by rw [h],?_,hb,fun q o h=>by cases h⟩
 rw [h]
 exact Rd.nil w'
theorem Rd.few {w:World} {A:Option Addr} {n z c:Nat} {xs:List Nat} (h:Rd w A n c (u8n xs)) (hz:z≤n):Rd w A z c (u8n (xs.take z)):=by
 have hl:xs.length=n:=Rd.nats h
 refine⟨by rw [Qv,Mk_];omega,by have:=h.2.1;omega,h.2.2.1,fun hp=>?_⟩
 obtain⟨b,o,hA,hb,hj⟩:=h.2.2.2 (by omega)
 refine⟨b,o,hA,hb,fun j u hu=>hj j u ?_⟩
 rw [show u8n (xs.take z)=(u8n xs).take z from by simp [u8n,List.map_take],List.getElem?_take] at hu
 split at hu
 ·exact hu
 ·cases hu
section
variable {F J:Nat→Prop} {g a:Nat} {s:St} {t:Slt} {w:World}
theorem qjc (h:DS w F J g a s t) (h1:t.has=false):Calls Tryz.prog 89 #[.pointer (some ⟨a,0,none⟩)] w (Ys w s t):=by
 have HS:=Hz (show Calls Tryz.prog 83 #[.pointer (some ⟨a,0,none⟩)] w fun e w'=>e=.returned (.bool false)∧w=w' from by have:=staged_any h.sm;rw [h1] at this;exact this)
 have HY:=Hz (show pY s t=([],16) from by unfold pY;rw [if_pos h1])
 clear h h1
 go_enter Tryz.func89,Tryz.ntmps89
 go_wp2_with (go_at_call 83;refine HS.o.mono ?_;rintro e w1 ⟨rfl,rfl⟩)
 go_ret2
 exact Ys.empty HY.o (Mb _ _)
theorem qjd (h:DS w F J g a s t) (h1:t.has=true) (hg:t.g.right) (h2:miss t.g.h (blocks t.g.z)≠[]):Calls Tryz.prog 89 #[.pointer (some ⟨a,0,none⟩)] w (Ys w s t):=by
 have HS:=Hz (show Calls Tryz.prog 83 #[.pointer (some ⟨a,0,none⟩)] w fun e w'=>e=.returned (.bool true)∧w=w' from by have:=staged_any h.sm;rw [h1] at this;exact this)
 have HY:=Hz (show pY s t=([],11) from by unfold pY;rw [if_neg (by rw [h1];simp),if_pos h2])
 have HW:=Hz (show Calls Tryz.prog 131 #[.pointer (some ⟨a,0,none⟩)] w fun e w'=>e=.returned (.bool false)∧Bw w w' from by
  have:=T6 h.sm
  rw [Ky hg.2.1.2,show (miss t.g.h (blocks t.g.z)).isEmpty=false from by simpa using h2] at this
  exact this)
 clear h h1 h2 hg
 go_enter Tryz.func89,Tryz.ntmps89
 go_wp2_with (first
  | (go_at_call 83;refine HS.o.mono ?_;rintro e w1 ⟨rfl,rfl⟩)
  | (go_at_call 131;refine HW.o.mono ?_;rintro e w1 ⟨rfl,hb1⟩;have L1:=Hz hb1;clear hb1))
 go_ret2
 exact Ys.empty HY.o L1.o
theorem qvc (h:DS w F J g a s t) (h1:t.has=true) (hg:t.g.right) (h2:miss t.g.h (blocks t.g.z)=[]):Calls Tryz.prog 89 #[.pointer (some ⟨a,0,none⟩)] w (Ys w s t):=by
 obtain⟨i0,hi0,hz0,hz1,hz2⟩:=info_parts NumA.info8
 have HS:=Hz (show Calls Tryz.prog 83 #[.pointer (some ⟨a,0,none⟩)] w fun e w'=>e=.returned (.bool true)∧w=w' from by have:=staged_any h.sm;rw [h1] at this;exact this)
 have HYD:=Hz (show s.down=true→pY s t=([],8) from fun hd=>by unfold pY;rw [if_neg (by rw [h1];simp),if_neg (fun e=>e h2),if_pos hd])
 have HYU:=Hz (show s.down=false→pY s t=((acc s t 3).take t.g.z.toNat,0) from fun hd=>by unfold pY;rw [if_neg (by rw [h1];simp),if_neg (fun e=>e h2),if_neg (by rw [hd];simp),qvb])
 have HW:=Hz (show Calls Tryz.prog 131 #[.pointer (some ⟨a,0,none⟩)] w fun e w'=>e=.returned (.bool true)∧Bw w w' from by
  have:=T6 h.sm
  rw [Ky hg.2.1.2,show (miss t.g.h (blocks t.g.z)).isEmpty=true from by simpa using h2] at this
  exact this)
 have HIM:=Hz (fun w' (hb:Bw w w') (k:Nat) (hk:k≤2)=>image_any (h.below hb) k hk)
 have H:=Hz h
 obtain⟨z,hz⟩:∃z:Nat,(z:Int)=t.g.z:=⟨t.g.z.toNat,by have:=hg.2.1.1;omega⟩
 have hz1':1≤z:=by have:=hg.2.1.1;omega
 have hz160:z≤160:=by have:=hg.2.1.2;omega
 rw [show t.g.z.toNat=z from by omega] at HYU
 have HZ:=Hz hz
 clear h h1 h2 hg hz
 go_enter Tryz.func89,Tryz.ntmps89
 go_wp2_with (first
  | (go_at_call 83;refine HS.o.mono ?_;rintro e w1 ⟨rfl,rfl⟩)
  | (go_at_call 131;refine HW.o.mono ?_;rintro e w1 ⟨rfl,hb1⟩;have L1:=Hz hb1;clear hb1))
 go_loopw [4,5] (fun b i wr=>∃(k n:Nat) (B:Option Addr) (c:Nat),k≤3∧Hid (n=64*k)∧b=.slice B n c∧i=.int .i64 k∧Hid (wr.ownsRow w.heap.size 5 1 (.slice B n c) n (u8n (acc s t k)))∧Hid (Bw w wr)∧Hid (0<k→s.down=false)) (fun _ i _=>3-(intOf i).toNat)
 case atStart=>exact⟨0,0,none,0,by omega,Hz rfl,rfl,rfl,Hz (World.ownsRow_nil _ _ _ _),L1,Hz fun h=>absurd h (by omega)⟩
 case round=>
  obtain⟨k,n,B,c,hk,hn,rfl,rfl,HO,LR,HU⟩:=hrel
  obtain⟨_,_,_,_,c4,_⟩:=(H.o.sm.below LR.o).cells
  rw [←HZ.o] at c4
  have hal:=(H.o.sm.below LR.o).blk.lt
  have hcap:=(Rd.own HO.o).2.1
  by_cases hlt:n<z
  ·have hk2:k≤2:=by have:=hn.o;omega
   have hn128:n≤128:=by have:=hn.o;omega
   have hlt':(n:Int)<(z:Int):=by omega
   cases hd:s.down with
   | true=>
     have HI:=Hz ((HIM.o wr LR.o k hk2).mono fun _ _=>img_no hd)
     have HD:=Hz hd
     clear hd
     go_wp2_with (go_at_call 86;refine HI.o.mono ?_;rintro e w2 ⟨hb2,A,m,rfl⟩;have L2:=Hz (LR.o.trans (hb2.mono LR.o.size));clear hb2)
     go_ret2
     exact Ys.empty (HYD.o HD.o) (L2.o.alloc L2.o.size _)
   | false=>
     have HI:=Hz ((HIM.o wr LR.o k hk2).mono fun _ _=>qva hd)
     have HD:=Hz hd
     clear hd
     go_wp2_with (first
      | (go_at_call 86;refine HI.o.mono ?_;rintro e w2 ⟨hb2,b,rfl,hB2,hbb,hl2⟩;have L2:=LR.o.trans (hb2.mono LR.o.size);have L3:=Hz (L2.alloc L2.size (.cells #[.int .i64 (t.dat k:Nat),.slice (some ⟨b,0,none⟩) 64 64] 159));have HO3:=Hz (own_below (own_below HO.o hb2) ((Mb w2.heap.size w2).alloc (Mr _) (.cells #[.int .i64 (t.dat k:Nat),.slice (some ⟨b,0,none⟩) 64 64] 159)));have HR3:=Hz ((blk_rd hB2 hl2 (by omega)).alloc (.cells #[.int .i64 (t.dat k:Nat),.slice (some ⟨b,0,none⟩) 64 64] 159));clear hb2 hB2 hbb hl2 L2)
      | (at_builtin;refine Qu _ rfl (.tmp 38) (.tmp 40) _ rfl w.heap.size 5 i0 _ 1 Tryz.underlying38 hi0 hz0 hz1 hz2 rfl _ n _ rfl HO3.o (some ⟨b,0,none⟩) 64 64 (u8n (now s (t.dat k))) rfl HR3.o (u8n_one _) (by omega) (by omega) L3.o.size ?_;intro A4 n4 c4' w4 hn4 hown4 hg4 hat4;have L4:=Hz (below_add L3.o HO3.o (Mr _) hg4);have HO4:=Hz hown4;have HN4:=hn4;clear hat4 hg4 hown4 hn4))
     go_roundw
     case rel=>exact⟨k+1,n4,A4,c4',by omega,Hz (by have:=HN4.o;have:=hn.o;omega),rfl,by go_num,Hz (by have:=HO4.o;rw [Jw] at this;exact this),L4,Hz fun _=>trivial⟩
     case measure=>simp [intOf];omega
  ·have hle:(z:Int)≤(n:Int):=by omega
   have hzc:(z:Int)≤(c:Int):=by omega
   have hd:=HU.o (by have:=hn.o;omega)
   have HX:=Hz (HYU.o hd)
   have HL:=Hz (show acc s t 3=acc s t 3∧n=(acc s t k).length from⟨rfl,by have:=HO.o.1;rw [Qv] at this;omega⟩)
   clear hd
   go_wp2_with fail
   go_ret2
   refine⟨B,z,c,by rw [HX.o];rfl,?_,LR.o,fun q o hB=>?_⟩
   ·rw [HX.o,qwm s t hk (by have:=HL.o.2;omega)]
    exact Rd.few (Rd.own HO.o) (by omega)
   ·have hB':(Value.slice B n c).ownBlock=some q:=by rw [hB];rfl
    exact (HO.o.lt q hB').1
theorem bytes_new (F J:Nat→Prop) (g a:Nat) (s:St) (t:Slt) (w:World) (h:DS w F J g a s t) (hg:t.has=true→t.g.right) :
 Calls Tryz.prog 89 #[.pointer (some ⟨a,0,none⟩)] w (Ys w s t):=by
 cases h1:t.has with
 | false=>exact qjc h h1
 | true=>
   by_cases h2:miss t.g.h (blocks t.g.z)=[]
   ·exact qvc h h1 (hg h1) h2
   ·exact qjd h h1 (hg h1) h2
end
end StgN
namespace StgN
open Kit Byt DskA StgM
theorem Wl (F J:Nat→Prop) (g a:Nat) (s:St) (t:Slt) (w:World) (h:DS w F J g a s t) (hg:t.has=true→t.g.right) :
 Calls Tryz.prog 89 #[.pointer (some ⟨a,0,none⟩)] w fun e w'=>∃B m d,e=.returned (.tuple #[.slice B m d,.int .i64 (pY s t).2])∧Rd w' B m d (u8n (pY s t).1)∧Bw w w':=
 (bytes_new F J g a s t w h hg).mono fun _ _ ⟨B,m,d,h1,h2,h3,_⟩=>⟨B,m,d,h1,h2,h3⟩
end StgN
namespace StgJ
open DskA DskE RecM StgM StgP StgQ
open RecA (n64 sval)
open DskB (newSt cnt zs)
section
variable {S0:List (List Nat)} {s:St} {t:Slt} {x:Rf}
theorem free_B (h:Inv S0 s t x) (f:Free s) (n z:Int):(pB s t n z).2.2=(rB x n z).2∧Inv S0 (pB s t n z).1 (pB s t n z).2.1 (rB x n z).1∧Free (pB s t n z).1∧(pB s t n z).2.1.p=t.p∧(pB s t n z).2.1.k=t.k:=by
 have hp:=put1_free f t.at_ (shut (fresh n z).bytes)
 have hne:(pB s t n z).2.2≠8∧Free (pB s t n z).1∧(pB s t n z).2.1.p=t.p∧(pB s t n z).2.1.k=t.k:=by
  unfold pB
  split
  ·rw [if_pos hp.1]
   exact⟨by show (0:Int)≠8;omega,hp.2,rfl,rfl⟩
  ·exact⟨by show (3:Int)≠8;omega,f,rfl,rfl⟩
 rcases qw5 h n z with⟨h1,_,h2⟩|⟨h1,_⟩
 ·exact⟨h1,h2,hne.2⟩
 ·exact absurd h1 hne.1
theorem free_P (h:Inv S0 s t x) (f:Free s) (n no:Int) (d:List Nat) (hbd:byt d):(pP s t n no d).2.2=(rP x n no d).2∧Inv S0 (pP s t n no d).1 (pP s t n no d).2.1 (rP x n no d).1∧Free (pP s t n no d).1∧(pP s t n no d).2.1.p=t.p∧(pP s t n no d).2.1.k=t.k:=by
 have hp:=put1_free f (t.dat (no.toNat/4)) (sect s t no.toNat d)
 have hq:=put1_free hp.2 t.at_ (shut (more t.g no).bytes)
 have hne:(pP s t n no d).2.2≠8∧Free (pP s t n no d).1∧(pP s t n no d).2.1.p=t.p∧(pP s t n no d).2.1.k=t.k:=by
  unfold pP
  split
  ·exact⟨by show (16:Int)≠8;omega,f,rfl,rfl⟩
  split
  ·exact⟨by show (17:Int)≠8;omega,f,rfl,rfl⟩
  split
  ·exact⟨by show (3:Int)≠8;omega,f,rfl,rfl⟩
  split
  ·exact⟨by show (14:Int)≠8;omega,f,rfl,rfl⟩
  split
  ·exact⟨by show (0:Int)≠8;omega,f,rfl,rfl⟩
  rw [if_neg (fun e=>e hp.1),if_neg (fun e=>e hq.1)]
  exact⟨by show (0:Int)≠8;omega,hq.2,rfl,rfl⟩
 rcases qw6 h n no d hbd with⟨h1,_,h2⟩|⟨h1,_⟩
 ·exact⟨h1,h2,hne.2⟩
 ·exact absurd h1 hne.1
end
theorem qvd:(getS (zs 64)).2≠0:=by
 have e:wrong 83 8 (zs 64)=2:=by
  have:=Yk 83 0 64 8 (by omega)
  rw [if_pos rfl] at this
  exact this
 unfold getS
 rw [e,if_pos (by omega)]
 show (2:Int)≠0
 omega
section
variable {w0 w w':World} {F J:Nat→Prop} {g a p k:Nat} {S0:List (List Nat)} {s:St} {x:Rf}
theorem right_of {t:Slt} (h:Inv S0 s t x):t.has=true→t.g.right:=fun e=>by rw [h.g];exact h.wf.right (by rw [←h.has];exact e)
end
end StgJ
namespace StoMk
open DskA DskB DskE RecM StgM StgP StgQ StgJ CmtM Put2 StoM StoK
open ShaM (by256)
def pL (s:St) (t:Slt) (xs:List Nat):Nat→St×Slt
 | 0=>((pB s t 1 (xs.length:Nat)).1,(pB s t 1 (xs.length:Nat)).2.1)
 | j+1=>((pP (pL s t xs j).1 (pL s t xs j).2 1 (j:Nat) (bk xs j)).1,(pP (pL s t xs j).1 (pL s t xs j).2 1 (j:Nat) (bk xs j)).2.1)
structure Ls (S0:List (List Nat)) (t:Slt) (xs:List Nat) (x:Rf) (j:Nat) (r:St×Slt):Prop where
 inv:Inv S0 r.1 r.2 (ldX xs 1 x j)
 free:Free r.1
 p:r.2.p=t.p
 k:r.2.k=t.k
section
variable {S0:List (List Nat)} {s:St} {t:Slt} {x:Rf} {xs:List Nat}
theorem pL_first (h:Inv S0 s t x) (f:Free s) (hn:1≤xs.length∧xs.length≤160):(pB s t 1 (xs.length:Nat)).2.2=0∧Ls S0 t xs x 0 (pL s t xs 0):=by
 obtain⟨h1,h2,h3,h4,h5⟩:=free_B h f 1 (xs.length:Nat)
 exact⟨by rw [h1];exact (ld_first x (by omega) hn).1,h2,h3,h4,h5⟩
theorem pL_next (hx:by256 xs) (hn:1≤xs.length∧xs.length≤160) {j:Nat} (hj:j<blocks (xs.length:Nat)) (h:Ls S0 t xs x j (pL s t xs j)) :
 (pP (pL s t xs j).1 (pL s t xs j).2 1 (j:Nat) (bk xs j)).2.2=0∧Ls S0 t xs x (j+1) (pL s t xs (j+1)):=by
 obtain⟨h1,h2,h3,h4,h5⟩:=free_P h.inv h.free 1 (j:Nat) (bk xs j) (fun c hc=>bk_by hx j c hc)
 have hl:=ldx (xs:=xs) x (q:=1) (by omega) hn j (by omega)
 exact⟨by rw [h1];exact (ld_put hl (by rw [hl.len];omega)).1,h2,h3,by rw [show (pL s t xs (j+1)).2.p=(pP (pL s t xs j).1 (pL s t xs j).2 1 (j:Nat) (bk xs j)).2.1.p from rfl,h4,h.p],by rw [show (pL s t xs (j+1)).2.k=(pP (pL s t xs j).1 (pL s t xs j).2 1 (j:Nat) (bk xs j)).2.1.k from rfl,h5,h.k]⟩
theorem pL_all (h:Inv S0 s t x) (f:Free s) (hx:by256 xs) (hn:1≤xs.length∧xs.length≤160):∀j,j≤blocks (xs.length:Nat)→Ls S0 t xs x j (pL s t xs j)
 | 0,_=>(pL_first h f hn).2
 | j+1,hj=>(pL_next hx hn (by omega) (pL_all h f hx hn j (by omega))).2
end
theorem lF_S {s:St} (hu:Up0 s) (f:Free s) {p:Nat} (hl:10*p+2≤s.S.length):(lF s p).1.S=(s.S.set (10*p+1) (zs 64)).set (10*p) (shut (one p).bytes):=by
 have h1:=put1_free f (10*p+1) (zs 64)
 have h2:=put1_free h1.2 (10*p) (shut (one p).bytes)
 have hb:=J8 (xs:=(one p).bytes) (by rw [Rc.bytes_len];omega)
 unfold lF
 rw [if_pos h1.1]
 rcases Ju hu (i:=10*p+1) (bs:=zs 64) (by omega) (zs_len 64) with⟨_,gu,gS⟩|⟨g8,_⟩
 ·rcases Ju gu (i:=10*p) (bs:=shut (one p).bytes) (by rw [gS,List.length_set];omega) hb with⟨_,_,kS⟩|⟨k8,_⟩
  ·rw [kS,gS]
  ·rw [h2.1] at k8;exact absurd k8 (by omega)
 ·rw [h1.1] at g8;exact absurd g8 (by omega)
structure Mk (s:St) (N k:Nat) (O:Nat→Ow):Prop where
 up:Up0 s
 free:Free s
 byts:Byts s
 len:s.S.length=N
 cr:∀p,p<k→Okw p (O p)∧CR s.S p (O p) 0
 zs:∀j,10*k≤j→j<N→s.S.getD j []=zs 64
theorem mk_new (m:Int) (O:Nat→Ow):Mk (newSt m) (cnt m) 0 O:=
 ⟨⟨rfl,rfl,new_ok m⟩,⟨by show (-1:Int)<0;omega,rfl⟩,qxf m,qjt m,fun p hp=>by omega,fun j _ hj=>qxb m j hj⟩
section
variable {s:St} {N k:Nat} {O:Nat→Ow} {xs:List Nat}
theorem Mk.rep (h:Mk s N k O) (hN:10*k+10≤N) {j:Nat} (hj:j≤1):Rep s.S (pO s k j) Rf.none:=by
 refine⟨fun e=>(by cases e),fun _=>?_,fun i hi=>(by simp [Rf.none] at hi)⟩
 rw [show (pO s k j).at_=10*k+2+4*j from rfl,h.zs _ (by omega) (by omega)]
 exact qvd
theorem Mk.inv (h:Mk s N k O) (hN:10*k+10≤N) {j:Nat} (hj:j≤1):Inv s.S s (pO s k j) Rf.none:=by
 have hr:=h.rep hN hj
 have hl:=Yn (t:=pO s k j) h.up.none_ hr Wk
 exact⟨h.up,hr,hl.1,hl.2,Wk,by rw [show (pO s k j).at_=10*k+2+4*j from rfl,h.len];omega,⟨rfl,fun _ _=>rfl⟩,h.byts⟩
theorem Mk.next (h:Mk s N k O) (hk:k≤3) (hN:10*k+10≤N) (hx:by256 xs) (hn:1≤xs.length∧xs.length≤160) (hO:Okw k (O k)) (hr:(O k).r=one k) (h0:(O k).x 0=ldX xs 1 Rf.none (blocks (xs.length:Nat))) (h1:(O k).x 1=Rf.none) :
 (lF (pL s (pO s k 0) xs (blocks (xs.length:Nat))).1 k).2=0∧Mk (lF (pL s (pO s k 0) xs (blocks (xs.length:Nat))).1 k).1 N (k+1) O:=by
 have hi:=h.inv hN (j:=0) (by omega)
 have ha:=pL_all (xs:=xs) hi h.free hx hn _ (Mr _)
 obtain⟨q,hq⟩:∃q,q=pL s (pO s k 0) xs (blocks (xs.length:Nat)):=⟨_,rfl⟩
 rw [←hq] at ha ⊢
 have hql:q.1.S.length=N:=by rw [ha.inv.o.1,h.len]
 have hat:q.2.at_=10*k+2:=by unfold Slt.at_;rw [ha.p,ha.k];rfl
 have hout:∀j,j<10*k+2∨10*k+6≤j→q.1.S.getD j []=s.S.getD j []:=fun j hj=>ha.inv.o.2 j (by rw [hat];omega)
 have hf:=free_F ha.inv.up ha.free ha.inv.byts (p:=k) hk (by omega)
 have hS:=lF_S ha.inv.up ha.free (p:=k) (by omega)
 have hget:∀j,j<10*k∨10*k+2≤j→(lF q.1 k).1.S.getD j []=q.1.S.getD j []:=fun j hj=>by
  rw [hS,Ql _ (by rw [List.length_set];omega),if_neg (by omega),Ql _ (by omega),if_neg (by omega)]
 have hNl:(lF q.1 k).1.S.length=N:=by rw [hS,List.length_set,List.length_set,hql]
 refine⟨hf.1,hf.2.1.up,hf.2.2,hf.2.1.byts,hNl,fun p hp=>?_,fun j hj hjN=>?_⟩
 ·by_cases e:p=k
  ·subst e
   refine⟨hO,?_,fun j hj=>?_⟩
   ·rw [hr];exact hf.2.1.tell
   ·rcases (show j=0∨j=1 from by omega) with rfl|rfl
    ·rw [h0]
     refine Y9 (S:=q.1.S) (t:=pl p 0 _) (Rep.to ha.inv.rep (by rw [hat];rfl)) ha.inv.wf fun i h2 h3=>hget i (by rw [pl_at] at h2;omega)
    ·rw [h1]
     refine⟨fun e=>(by cases e),fun _=>?_,fun i hi=>(by simp [Rf.none] at hi)⟩
     rw [pl_at,hget _ (by omega),hout _ (by omega),h.zs _ (by omega) (by omega)]
     exact qvd
  ·have hp':p<k:=by omega
   have h2:=h.cr p hp'
   exact⟨h2.1,h2.2.cong h2.1 fun j h3 h4=>by rw [hget j (by omega),hout j (by omega)]⟩
 ·rw [hget j (by omega),hout j (by omega)]
  exact h.zs j (by omega) hjN
theorem Mk.su (h:Mk s N k O) (hk:k≤4) (hN:10*k≤N):SU s k (opn s) O:=su_of h.up h.byts hk (by rw [h.len];exact hN) (fun p hp=>(h.cr p hp).1) fun p hp=>⟨0,by omega,(h.cr p hp).2⟩
end
end StoMk
namespace StoLd
open DskA DskE RecM StgM StgP StgJ CmtM StoK StoMk
open ShaM (by256)
open BitM (hb)
def stp (r:(St×Slt)×Nat) (d:List Nat):(St×Slt)×Nat:=(((pP r.1.1 r.1.2 1 (r.2:Nat) d).1,(pP r.1.1 r.1.2 1 (r.2:Nat) d).2.1),r.2+1)
def pD (s:St) (t:Slt) (len:Nat) (ds:List (List Nat)):(St×Slt)×Nat:=ds.foldl stp (((pB s t 1 (len:Nat)).1,(pB s t 1 (len:Nat)).2.1),0)
theorem Gn (s:St) (t:Slt) (len:Nat) (ds:List (List Nat)) (d:List Nat):pD s t len (ds++[d])=stp (pD s t len ds) d:=by simp [pD]
theorem pD_n (s:St) (t:Slt) (len:Nat):∀n (ds:List (List Nat)),ds.length=n→(pD s t len ds).2=n
 | 0,ds,h=>by rw [List.eq_nil_of_length_eq_zero h];rfl
 | n+1,ds,h=>by
   obtain⟨ds',d,rfl⟩:∃ds' d,ds=ds'++[d]:=⟨ds.dropLast,ds.getLast (fun e=>by rw [e] at h;cases h),(List.dropLast_concat_getLast _).symm⟩
   rw [Gn]
   show (pD s t len ds').2+1=n+1
   rw [pD_n s t len n ds' (by simpa using h)]
theorem pD_pL (s:St) (t:Slt) (xs:List Nat):∀j,(pD s t xs.length ((List.range j).map (bk xs))).1=pL s t xs j
 | 0=>rfl
 | j+1=>by
   have h2:=pD_n s t xs.length j ((List.range j).map (bk xs)) (by simp)
   rw [List.range_succ,List.map_append,List.map_cons,List.map_nil,Gn]
   unfold stp
   rw [pD_pL s t xs j,h2]
   rfl
structure Pd (S0:List (List Nat)) (t:Slt) (len:Nat) (r:St×Slt):Prop where
 inv:∃x,Inv S0 r.1 r.2 x
 free:Free r.1
 has:r.2.has=true
 ses:r.2.g.s=1
 siz:r.2.g.z=len
 p:r.2.p=t.p
 k:r.2.k=t.k
section
variable {S0:List (List Nat)} {s:St} {t:Slt} {x:Rf} {len:Nat}
theorem pB_pd (h:Inv S0 s t x) (f:Free s) (hn:1≤len∧len≤160):(pB s t 1 (len:Nat)).2.2=0∧Pd S0 t len ((pB s t 1 (len:Nat)).1,(pB s t 1 (len:Nat)).2.1):=by
 have hr:(fresh 1 (len:Nat)).right:=W6 (by omega) (by omega)
 obtain⟨h1,h2,h3,h4,h5⟩:=free_B h f 1 (len:Nat)
 have hp:=(put1_free f t.at_ (shut (fresh 1 (len:Nat)).bytes)).1
 have e:pB s t 1 (len:Nat)=((put1 s t.at_ (shut (fresh 1 (len:Nat)).bytes)).1,{ t with has:=true,g:=fresh 1 (len:Nat) },0):=by
  unfold pB
  rw [if_pos hr,if_pos hp]
 rw [e] at h1 h2 h3 h4 h5 ⊢
 exact⟨rfl,⟨_,h2⟩,h3,rfl,rfl,rfl,h4,h5⟩
theorem pP_pd {r:St×Slt} (h:Pd S0 t len r) (hn:len≤160) {no:Nat} (hno:no<blocks (len:Nat)) {d:List Nat} (hd:d.length=16) (hb':byt d):(pP r.1 r.2 1 (no:Nat) d).2.2=0∧Pd S0 t len ((pP r.1 r.2 1 (no:Nat) d).1,(pP r.1 r.2 1 (no:Nat) d).2.1):=by
 obtain⟨x,hi⟩:=h.inv
 obtain⟨_,h2,h3,h4,h5⟩:=free_P hi h.free 1 (no:Nat) d hb'
 have c1 : ¬r.2.has=false:=by rw [h.has];simp
 have c2 : ¬(1:Int)≠r.2.g.s:=by rw [h.ses];simp
 have c3 : ¬((no:Int)<0∨(blocks r.2.g.z:Int)≤(no:Int)):=by rw [h.siz];omega
 have c4 : ¬d.length≠16:=by rw [hd];simp
 by_cases hh:hb r.2.g.h (no:Nat)=true
 ·have e:pP r.1 r.2 1 (no:Nat) d=(r.1,r.2,0):=by
   unfold pP
   rw [if_neg c1,if_neg c2,if_neg c3,if_neg c4,if_pos hh]
  rw [e]
  exact⟨rfl,h⟩
 ·have f1:=put1_free h.free (r.2.dat ((no:Int).toNat/4)) (sect r.1 r.2 (no:Int).toNat d)
  have f2:=put1_free f1.2 r.2.at_ (shut (more r.2.g (no:Nat)).bytes)
  have e:pP r.1 r.2 1 (no:Nat) d=((put1 (put1 r.1 (r.2.dat ((no:Int).toNat/4)) (sect r.1 r.2 (no:Int).toNat d)).1 r.2.at_ (shut (more r.2.g (no:Nat)).bytes)).1,{ r.2 with g:=more r.2.g (no:Nat) },0):=by
   unfold pP
   rw [if_neg c1,if_neg c2,if_neg c3,if_neg c4,if_neg hh,if_neg (by rw [f1.1];simp),if_neg (by rw [f2.1];simp)]
  rw [e] at h2 h3 h4 h5 ⊢
  exact⟨rfl,⟨_,h2⟩,h3,h.has,h.ses,h.siz,h4.trans h.p,h5.trans h.k⟩
theorem pD_pd (h:Inv S0 s t x) (f:Free s) (hn:1≤len∧len≤160):∀n (ds:List (List Nat)),ds.length=n→n≤blocks (len:Nat)→(∀d ∈ ds,d.length=16∧byt d)→Pd S0 t len (pD s t len ds).1
 | 0,ds,hl,_,_=>by rw [List.eq_nil_of_length_eq_zero hl];exact (pB_pd h f hn).2
 | n+1,ds,hl,hm,hd=>by
   obtain⟨ds',d,rfl⟩:∃ds' d,ds=ds'++[d]:=⟨ds.dropLast,ds.getLast (fun e=>by rw [e] at hl;cases hl),(List.dropLast_concat_getLast _).symm⟩
   have hl':ds'.length=n:=by simpa using hl
   have h1:=pD_pd h f hn n ds' hl' (by omega) fun d hd'=>hd d (List.mem_append.2 (.inl hd'))
   have h2:=hd d (List.mem_append.2 (.inr (List.mem_singleton.2 rfl)))
   rw [Gn]
   have hnn:=pD_n s t len n ds' hl'
   have h3:=(pP_pd h1 hn.2 (no:=n) (by omega) h2.1 h2.2).2
   unfold stp
   rw [hnn]
   exact h3
end
end StoLd
namespace StoLd
open Go.Shelf Mem
open BitP (Kp Kp.refl Kp.t Kp.b J5)
attribute [local go_sem] Oper.semAt_some
def nbk (n:Nat):Nat:=(n+15)/16
def pce (n k:Nat):Nat:=min 16 (n-16*k)
def enc (b o n:Nat) (x:Fin (nbk n)):Array Value:=#[.slice (some ⟨b,o+16*x.val,none⟩) (pce n x.val) (pce n x.val)]
def upto {N:Nat} (l:List (Fin N)) (k:Nat):Prop:=l.map (·.val)=List.range k
theorem qve (m:Nat) (hm:3≤m) (l Bs Bn b o n c:Nat) (hn:0<n∧n≤1000) (hc:n≤c∧c≤9223372036854775807) (J Jx:List (Fin (nbk n))→World→Prop) (hA:∀pre A,J pre A→J pre A.drew)
 (hY:∀pre x W,J pre W→pre.length<nbk n→YieldAt Fence.wide (m-1) Tryz.prog l (enc b o n x) W fun e W'=>
   (e=.returned (.bool true)∧J (pre++[x]) W'∧Kp Bs Bn W W')∨(e=.returned (.bool false)∧Jx (pre++[x]) W'))
 (W:World) (hcs:Blk W Bs 38 [.slice (some ⟨b,o,none⟩) n c]) (hcn:Blk W Bn 3 [.int .i64 16]) (h0:J [] W) :
 CallsIn Fence.wide m Tryz.prog 181 #[.func (.yield l) #[] #[],.pointer (some ⟨Bs,0,none⟩),.pointer (some ⟨Bn,0,none⟩)] W fun e W'=>(∃v,e=.returned v)∧
  ((∃ys,upto ys (nbk n)∧J ys W')∨(∃pre,(∃k,k≤nbk n∧upto pre k)∧Jx pre W')):=by
 have hN:nbk n≤1000:=by unfold nbk;omega
 have hN2:16*nbk n<n+16∧n≤16*nbk n:=by unfold nbk;omega
 have h1m:1≤m:=by omega
 obtain⟨N,hNN⟩:∃N,N=nbk n:=⟨_,rfl⟩
 refine callsIn_of_wp Tryz.func181 rfl trivial ?_ rfl
 simp only [Tryz.ntmps181,List.size_toArray,List.length_cons,List.length_nil,Nat.reduceAdd,Nat.reduceSub,Array.replicate_succ,Array.replicate_zero,List.push_toArray,List.append_toArray,List.nil_append,List.cons_append]
 gi_wp2
 gi_loopw [4] (fun i wr=>∃(k:Nat) (pre:List (Fin (nbk n))),k≤nbk n∧i=.int .i64 ((16*k:Nat):Int)∧Hid (upto pre k)∧J pre wr∧Kp Bs Bn W wr) (fun i _=>nbk n-(intOf i).toNat/16)
 case atStart=>exact⟨0,[],Nat.zero_le _,rfl,Hz rfl,h0,Kp.refl _⟩
 case round=>
  obtain⟨k,pre,hk,rfl,HV,hJ,hkp⟩:=hrel
  have cs:=((show Blk wr Bs 38 [.slice (some ⟨b,o,none⟩) n c] from hkp.1.trans hcs)).cell (i:=0) rfl
  have cn:=((show Blk wr Bn 3 [.int .i64 16] from hkp.2.trans hcn)).cell (i:=0) rfl
  by_cases hlt:k<nbk n
  ·have hkn:16*k<n:=by unfold nbk at hlt;omega
   obtain⟨q,hq⟩:∃q,q=16*k:=⟨_,rfl⟩
   obtain⟨fn,tmps,assign,body,hy,hR⟩:=hY pre (⟨k,hlt⟩:Fin (nbk n)) wr.drew (hA _ _ hJ) (by
    have h8:=congrArg List.length HV.o
    rw [List.length_map,List.length_range] at h8
    omega)
   simp only [enc,pce] at hy
   rw [←hq] at hy ⊢
   have hqn:(q:Int)<n:=by omega
   have hqn':q<n:=by omega
   have HQ:=Hz hq
   clear hq hkn
   gi_wp2
   gi_region
   obtain⟨p,hp⟩:∃p,p=min 16 (n-q):=⟨_,rfl⟩
   rw [←hp] at hy
   have hif:(if ((n-q:Nat):Int)<16 then ((n-q:Nat):Int) else 16)=(p:Int):=by rw [hp];split <;> omega
   simp only [hif]
   have hpn:q+p≤n:=by omega
   have hp0:0<p:=by omega
   have hqc:q+p≤c:=by omega
   have hsum:IntKind.i64.wrap ((q:Int)+(p:Int))=((q+p:Nat):Int):=by rw [Mi_];omega
   clear hif hp
   gi_wp2
   refine hR.mono ?_
   rintro e W3 (⟨rfl,hJ3,hk3⟩|⟨rfl,hJx3⟩)
   ·have hk4:Kp Bs Bn wr W3:=hk3
    have hkw:=hkp.t hk4
    have cn3:=((show Blk W3 Bn 3 [.int .i64 16] from hkw.2.trans hcn)).cell (i:=0) rfl
    have hs2:IntKind.i64.wrap ((q:Int)+16)=((q+16:Nat):Int):=by rw [Mi_];omega
    gi_wp2
    go_roundw
    case rel=>exact⟨k+1,_,by omega,by rw [show 16*(k+1)=q+16 from by have:=HQ.o;omega];go_num,Hz (by unfold upto;rw [List.map_append,List.range_succ];exact congrArg (·++[k]) HV.o),hJ3,hkw⟩
    case measure=>simp [intOf];have:=HQ.o;omega
   ·gi_wp2
    refine bodyPost_ret (results_none rfl _ _ _) rfl ?_
    exact⟨⟨_,rfl⟩,.inr ⟨_,⟨k+1,by omega,by unfold upto;rw [List.map_append,List.range_succ];exact congrArg (·++[k]) HV.o⟩,hJx3⟩⟩
  ·obtain rfl:k=nbk n:=by omega
   have hge : ¬((16*nbk n:Nat):Int)<(n:Nat):=by omega
   gi_wp2
   go_end0
   exact⟨⟨_,rfl⟩,.inl ⟨_,HV.o,hJ⟩⟩
theorem chunk_in (m:Nat) (A:Option Addr) (n c:Nat) (w:World) :
 CallsIn Fence.wide m Tryz.prog 152 #[.slice A n c,.int .i64 16] w fun e w'=>e=.returned (.func (.func 181) #[] #[.pointer (some ⟨w.heap.size,0,none⟩),.pointer (some ⟨w.heap.size+1,0,none⟩)])∧w'=(w.alloc (.cells #[.slice A n c] 38)).alloc (.cells #[.int .i64 16] 3):=by
 refine callsIn_of_wp Tryz.func152 rfl trivial ?_ rfl
 simp only [Tryz.ntmps152,List.size_toArray,List.length_cons,List.length_nil,Nat.reduceAdd,Nat.reduceSub,Array.replicate_succ,Array.replicate_zero,List.push_toArray,List.append_toArray,List.nil_append,List.cons_append]
 gi_wp2
 go_ret
 exact⟨rfl,rfl⟩
theorem chunk_stops (m:Nat) (hm:3≤m) (Bs Bn b o n c:Nat) (hn:0<n∧n≤1000) (hc:n≤c∧c≤9223372036854775807) (w:World) (hcs:Blk w Bs 38 [.slice (some ⟨b,o,none⟩) n c]) (hcn:Blk w Bn 3 [.int .i64 16]) :
 SeqStopsK Fence.wide m Tryz.prog 181 #[.pointer (some ⟨Bs,0,none⟩),.pointer (some ⟨Bn,0,none⟩)] (enc b o n) (Kp Bs Bn) (fun ys=>upto ys (nbk n)) (fun pre=>∃k,k≤nbk n∧upto pre k) (nbk n) w:=fun l J Jx W hW hA _ hY h0=>
 qve m hm l Bs Bn b o n c hn hc J Jx (fun pre A h=>hA pre A A.drew none h ⟨rfl,rfl,rfl,Mr _,fun _ _ _=>rfl⟩ fun r e=>(by cases e)) hY W (hcs.below hW) (hcn.below hW) h0
end StoLd
namespace CmtC
open RecM RecA
theorem rc_eq {r k:Rc} (h1:r.p=k.p) (h2:r.q=k.q) (h3:r.a=k.a) (h4:r.c=k.c) (h5:r.l=k.l) (h6:r.b=k.b):r=k:=by
 obtain⟨a,b,c,d,e,f⟩:=r
 obtain⟨a',b',c',d',e',f'⟩:=k
 simp only at h1 h2 h3 h4 h5 h6
 subst h1 h2 h3 h4 h5 h6
 rfl
theorem req (r k:Rc) (b:Bool) (hb:b=true↔r=k) (w:World):(Op.equalIn 10000 54 (rval r) (rval k)).run Tryz.prog w=.ok b w:=by
 have ht:Tryz.prog.underlying 54=some (.struct (Tryz.prog.fieldsOf 54)):=by kernel_rfl
 have hp:Tryz.prog.stoodInHeld 54=false:=by kernel_rfl
 rw [show (10000:Nat)=9999+1 from rfl,run_equalIn_struct w 9999 _ _ _ ht hp]
 have e:b=(((((((r.p==k.p)&&(r.q==k.q))&&(r.a==k.a))&&(r.c==k.c))&&(r.l==k.l))&&(r.b==k.b))):=by
  rw [Bool.eq_iff_iff,hb]
  simp only [Bool.and_eq_true,beq_iff_eq]
  exact⟨fun h=>by rw [h];exact⟨⟨⟨⟨⟨rfl,rfl⟩,rfl⟩,rfl⟩,rfl⟩,rfl⟩,fun⟨⟨⟨⟨⟨h1,h2⟩,h3⟩,h4⟩,h5⟩,h6⟩=>rc_eq h1 h2 h3 h4 h5 h6⟩
 subst e
 simp [go_sem,Op.eqFields,Tryz.underlying54,Tryz.underlying3]
 clear hb
 (repeat' split) <;> simp [*]
end CmtC
namespace CmtN
open Kit Byt Mem DskA DskC DskE DskF RecM CmtM StgM PlaM
open RecA (rval rcells rok)
def lgc (g:Nat) (l:Lg):List Value:=[.pointer (some ⟨g,0,none⟩),.int .i64 (l.p:Nat),.int .i64 l.r.p,.int .i64 l.r.q,.int .i64 l.r.a,.int .i64 l.r.c,.int .i64 l.r.l,.int .i64 l.r.b,.int .i64 (l.i:Nat)]
structure Lm (w:World) (J:Nat→Prop) (a g:Nat) (l:Lg):Prop where
 blk:Blk w a 164 (lgc g l)
 own:∀i,J i↔i=a
 ok:rok l.r
theorem Lm.keep {w w':World} {J G:Nat→Prop} {a g:Nat} {l:Lg} (h:Lm w J a g l) (k:Keep G w w') (hd:∀i,J i→¬G i):Lm w' J a g l:=
 ⟨k.blk h.blk (hd a ((h.own a).2 rfl)),h.own,h.ok⟩
theorem Lm.lt {w:World} {J:Nat→Prop} {a g:Nat} {l:Lg} (h:Lm w J a g l):∀i,J i→i<w.heap.size:=fun i hi=>by
 rw [(h.own i).1 hi]
 exact h.blk.lt
theorem Lm.below {w w':World} {J:Nat→Prop} {a g:Nat} {l:Lg} (h:Lm w J a g l) (hb:Bw w w'):Lm w' J a g l:=h.keep (Keep.of_below (F:=fun _=>False) hb) fun _ _ h=>h
theorem Lm.cells {w:World} {J:Nat→Prop} {a g:Nat} {l:Lg} (h:Lm w J a g l):w.cell? ⟨a,0,none⟩=some (.pointer (some ⟨g,0,none⟩))∧w.cell? ⟨a,1,none⟩=some (.int .i64 (l.p:Nat))∧w.cell? ⟨a,3,none⟩=some (.int .i64 l.r.q)∧w.cell? ⟨a,8,none⟩=some (.int .i64 (l.i:Nat)):=
 ⟨h.blk.cell rfl,h.blk.cell rfl,h.blk.cell rfl,h.blk.cell rfl⟩
structure LS (w:World) (F J:Nat→Prop) (g a:Nat) (s:St) (l:Lg):Prop where
 dk:Dk w F g s
 lm:Lm w J a g l
 dis:∀i,F i→¬J i
 most:s.L.length≤1000000
 fits:l.p≤3∧10*l.p+2≤s.S.length
 rec_:l.r.right∧l.r.p=l.p∧l.i≤1
def Lgo (F J:Nat→Prop) (g a:Nat) (w:World) (v:Value) (s':St) (l':Lg) (e:Ending) (w':World):Prop:=
 e=.returned v∧∃F' J',Dk w' F' g s'∧Lm w' J' a g l'∧(∀i,F' i→¬J' i)∧Keep (fun i=>F i∨J i) w w'∧(∀i,F' i→(F i∨J i)∨w.heap.size≤i)∧(∀i,J' i→(F i∨J i)∨w.heap.size≤i)
theorem rC_at {p k:Nat} (hp:p≤3) (hk:k≤1):rC (p:Int) (k:Int)=((10*p+k:Nat):Int):=by
 unfold rC fnd
 rw [if_pos (by omega),if_neg (by omega)]
 omega
theorem Ux {p k:Nat} (hp:p≤3) (hk:k≤1) (w:World):Calls Tryz.prog 80 #[.int .i64 (p:Nat),.int .i64 (k:Nat)] w fun e w'=>e=.returned (.tuple #[.int .i64 ((10*p+k:Nat):Int),.bool true])∧Bw w w':=by
 have h:=PlaN.qq7 (p:Int) (k:Int) w ⟨by omega,by omega⟩ ⟨by omega,by omega⟩
 rw [rC_at hp hk,PlaN.Th (by omega),PlaN.Tl (by omega)] at h
 exact h
section
variable {w:World} {F J:Nat→Prop} {a g:Nat} {s:St} {l:Lg}
theorem sector_any (h:Lm w J a g l) (hp:l.p≤3) {i:Nat} (hi:i≤1):Calls Tryz.prog 147 #[.pointer (some ⟨a,0,none⟩),.int .i64 (i:Nat)] w fun e w'=>e=.returned (.int .i64 ((10*l.p+i:Nat):Int))∧Bw w w':=by
 obtain⟨_,c1,_,_⟩:=h.cells
 have hlt:=h.blk.lt
 have HP:=Hz (fun w'=>Ux hp hi w')
 obtain⟨q,hq⟩:∃q,q=10*l.p+i:=⟨_,rfl⟩
 obtain⟨p,hpp⟩:∃p,p=l.p:=⟨_,rfl⟩
 rw [←hq] at HP ⊢
 rw [←hpp] at HP c1
 clear h hp hi hq hpp
 go_enter Tryz.func147,Tryz.ntmps147
 go_wp2_with (go_at_call 80;refine (HP.o _).mono ?_;rintro e w1 ⟨rfl,hb1⟩;have HB:=Hz hb1;clear hb1)
 go_ret
 exact⟨rfl,HB.o⟩
theorem put1_a {s:St} (i:Nat) (bs:List Nat) (h:(spend s).1=false):put1 s i bs=((spend s).2,8):=by
 unfold put1
 rw [if_pos h]
theorem put1_b {s:St} (i:Nat) (bs:List Nat) (h:(spend s).1=true) (h2:(spend (wrote (spend s).2 i bs)).1=false):put1 s i bs=((spend (wrote (spend s).2 i bs)).2,8):=by
 unfold put1
 rw [if_neg (by rw [h];simp),if_pos h2]
theorem put1_c {s:St} (i:Nat) (bs:List Nat) (h:(spend s).1=true) (h2:(spend (wrote (spend s).2 i bs)).1=true):put1 s i bs=(lay (fun _=>true) (spend (wrote (spend s).2 i bs)).2,0):=by
 unfold put1
 rw [if_neg (by rw [h];simp),if_neg (by rw [h2];simp)]
theorem Got.from {w2:World} {v:Value} {s':St} {e:Ending} {w':World} (hb:Bw w w2) (h:Got F g w2 v s' e w'):Got F g w v s' e w':=by
 obtain⟨he,F2,hD,hk2,hf2⟩:=h
 refine⟨he,F2,hD,(Keep.of_below hb).trans hk2 (fun i hi=>.inl hi),fun k h=>?_⟩
 rcases hf2 k h with h|h
 ·exact .inl h
 ·exact .inr (Ml hb.size h)
theorem write_any (hD:Dk w F g s) (h:Lm w J a g l) (hF : ¬F a) (hp:l.p≤3) {i:Nat} (hi:i≤1) (hf:10*l.p+2≤s.S.length) {A:Option Addr} {c:Nat} {bs:List Nat} (hR:Rd w A 64 c (u8n bs)) (hA:∀b o,A=some ⟨b,o,none⟩→¬F b) (hL:s.L.length≤1000000) :
 Calls Tryz.prog 95 #[.pointer (some ⟨a,0,none⟩),.int .i64 (i:Nat),.slice A 64 c] w (Got F g w (.int .i64 (put1 s (10*l.p+i) bs).2) (put1 s (10*l.p+i) bs).1):=by
 obtain⟨c0,_,_,_⟩:=h.cells
 have hlt:=h.blk.lt
 have HS:=Hz (sector_any (h.below ((Mb w.heap.size w).drew)) hp hi)
 have H:=Hz h
 have HF:=Hz hF
 have hq:10*l.p+i<s.S.length:=by omega
 obtain⟨q,hqq⟩:∃q,q=10*l.p+i:=⟨_,rfl⟩
 rw [←hqq] at HS hq ⊢
 have HQ:=Hz hq
 clear h hF hp hi hf hq hqq
 cases hs:(spend s).1 with
 | false=>
   have HW:=Hz (fun w' (hb:Bw w w')=>write_down F g s (q:Int) A c w' (hD.below hb) (by simp [inB,HQ.o]) hs)
   rw [put1_a q bs hs]
   clear hs hD hR hA hL
   go_enter Tryz.func95,Tryz.ntmps95
   go_wp2_with fail
   go_region_held3 (fun w'=>w'.cell? ⟨a,0,none⟩=some (.pointer (some ⟨g,0,none⟩)))
    (first
     | go_keep
     | (rw [hb1.cell (by simpa using hlt)];assumption)
     | (rw [World.cell?_of_block (HK2.o.block a hl1 HF.o)];assumption))
    ((first
      | (have hq:=HB1;clear hq;go_at_call 28;refine (HW.o _ HB1.o).mono ?_;rintro e w2 ⟨rfl,F1,hD1,hk1,hf1⟩;have HD2:=Hz hD1;have HK2:=Hz hk1;have HF2:=Hz hf1;clear hD1 hk1 hf1)
      | (go_at_call 147;refine HS.o.mono ?_;rintro e w1 ⟨rfl,hb1⟩;have HB1:=Hz (show Bw w w1 from ((Mb w.heap.size w).drew).trans hb1);have hl1:a<w1.heap.size:=Mw hlt HB1.o.size)))
   go_wp2
   go_ret
   exact Got.from HB1.o ⟨rfl,F1,HD2.o,HK2.o,HF2.o⟩
 | true=>
   have HW:=Hz (fun w' (hb:Bw w w')=>write_ok F g s q A c bs w' (hD.below hb) HQ.o (hR.below hb) hA hs (by omega))
   have HSP:=Hz hs
   have hm:=Hz hL
   clear hs hD hR hA hL
   go_enter Tryz.func95,Tryz.ntmps95
   go_wp2_with fail
   go_region_held3 (fun w'=>w'.cell? ⟨a,0,none⟩=some (.pointer (some ⟨g,0,none⟩)))
    (first
     | go_keep
     | (rw [hb1.cell (by simpa using hlt)];assumption)
     | (rw [World.cell?_of_block (HK2.o.block a hl1 HF.o)];assumption))
    ((first
      | (have hq:=HB1;clear hq;go_at_call 28;refine (HW.o _ HB1.o).mono ?_;rintro e w2 ⟨rfl,F1,hD1,hk1,hf1⟩;have HD2:=Hz hD1;have HK2:=Hz hk1;have HF2:=Hz hf1;clear hD1 hk1 hf1)
      | (go_at_call 147;refine HS.o.mono ?_;rintro e w1 ⟨rfl,hb1⟩;have HB1:=Hz (show Bw w w1 from ((Mb w.heap.size w).drew).trans hb1);have hl1:a<w1.heap.size:=Mw hlt HB1.o.size)))
   have hw:({ (spend s).2 with L:=s.L++[(q,bs)] }:St)=wrote (spend s).2 q bs:=by
    unfold wrote
    rw [(spend_S s).2]
   have HD3:=Hz (show Dk w2 F1 g (wrote (spend s).2 q bs) from hw▸HD2.o)
   have d0:w2.cell? ⟨a,0,none⟩=some (.pointer (some ⟨g,0,none⟩)):=(World.cell?_of_block (HK2.o.block a hl1 HF.o)).trans ((HB1.o.cell hlt).trans c0)
   have HL:=Hz (show (wrote (spend s).2 q bs).L.length≤1000000000 from by
    show ((spend s).2.L++[(q,bs)]).length≤_
    have:=hm.o
    rw [(spend_S s).2,Ma]
    show s.L.length+1≤_
    omega)
   clear hw HD2 hm c0
   cases hs2:(spend (wrote (spend s).2 q bs)).1 with
   | false=>
     have HFL:=Hz (flush_down F1 g _ w2 HD3.o hs2)
     have HP:=Hz (put1_b q bs HSP.o hs2)
     clear hs2
     go_wp2_with (go_at_call 126;refine HFL.o.mono ?_;rintro e w3 ⟨rfl,F2,hD2,hk2,hf2⟩;have HG:=Hz (Got.trans HK2.o HF2.o (v:=.int .i64 8) ⟨rfl,F2,hD2,hk2,hf2⟩);clear hD2 hk2 hf2)
     go_ret
     rw [HP.o]
     exact Got.from HB1.o HG.o
   | true=>
     have HFL:=Hz (flush_ok F1 g _ w2 HD3.o hs2 HL.o)
     have HP:=Hz (put1_c q bs HSP.o hs2)
     clear hs2
     go_wp2_with (go_at_call 126;refine HFL.o.mono ?_;rintro e w3 ⟨rfl,F2,hD2,hk2,hf2⟩;have HG:=Hz (Got.trans HK2.o HF2.o (v:=.int .i64 0) ⟨rfl,F2,hD2,hk2,hf2⟩);clear hD2 hk2 hf2)
     go_ret
     rw [HP.o]
     exact Got.from HB1.o HG.o
end
theorem Yv:rok Rc.none:=⟨⟨by decide,by decide⟩,⟨by decide,by decide⟩,⟨by decide,by decide⟩,⟨by decide,by decide⟩,⟨by decide,by decide⟩,⟨by decide,by decide⟩⟩
theorem logOf_any (F:Nat→Prop) (g:Nat) (s:St) (p:Nat) (w:World) (hD:Dk w F g s) (hp:p≤3) (hf:10*p+2≤s.S.length) :
 Calls Tryz.prog 117 #[.pointer (some ⟨g,0,none⟩),.int .i64 (p:Nat)] w fun e w'=>∃a,e=.returned (.tuple #[.pointer (some ⟨a,0,none⟩),.int .i64 0])∧w.heap.size≤a∧Lm w' (fun i=>i=a) a g ⟨p,Rc.none,0⟩∧Bw w w':=by
 have H2:=Hz (fun w'=>Ux (p:=p) (k:=1) hp (by omega) w')
 have H3:=Hz (fun w' (h:Bw w w')=>Nu F g s w' (hD.below h))
 have hm:=hD.ok.most
 obtain⟨q,hq⟩:∃q,q=10*p+1:=⟨_,rfl⟩
 rw [←hq] at H2
 have hge:q<s.S.length:=by omega
 obtain⟨N,hN⟩:∃N,N=s.S.length:=⟨_,rfl⟩
 rw [←hN] at H3 hge hm
 clear hq hD hp hf hN
 go_enter Tryz.func117,Tryz.ntmps117
 go_wp2_with (first
  | (go_at_call 80;refine (H2.o _).mono ?_;rintro e w2 ⟨rfl,hb2⟩;have L2:=Hz hb2;clear hb2)
  | (go_at_call 21;refine (H3.o _ L2.o).mono ?_;rintro e w3 ⟨rfl,rfl⟩))
 go_ret2
 exact⟨w2.heap.size,rfl,L2.o.size,⟨Blk.new w2 164 (lgc g ⟨p,Rc.none,0⟩),fun _=>Iff.rfl,Yv⟩,L2.o.alloc L2.o.size _⟩
theorem Jz:(Tryz.prog.info? 54).map (·.size)=some 6:=by kernel_rfl
theorem Uk (J:Nat→Prop) (g a:Nat) (l:Lg) (w:World) (h:Lm w J a g l) :
 Calls Tryz.prog 41 #[.pointer (some ⟨a,0,none⟩)] w fun e w'=>e=.returned (rval l.r)∧Bw w w':=by
 have L0:=Hz (show Bw w (w.alloc (.cells (rcells Rc.none).toArray 54)) from (Mb _ _).alloc (Mr _) _)
 have HB0:=Hz (show Blk (w.alloc (.cells (rcells Rc.none).toArray 54)) w.heap.size 54 (rcells Rc.none) from Blk.new w _ _)
 have HL:=Hz (h.below L0.o).blk
 clear h
 go_enter Tryz.func41,Tryz.ntmps41
 go_wp2_with (first
  | (refine Qz rfl 54 _ rfl a 2 rfl (rcells l.r) HL.o rfl Tryz.underlying54 rfl Jz ?_)
  | (refine Qq rfl 54 (.tmp 2) (.tmp 9) rfl w.heap.size rfl (rcells l.r) rfl HB0.o rfl Jz (RecN.one_r _) ?_;intro w9 hB9 ho9))
 have e0:=hB9.o.cell (i:=0) rfl
 have e1:=hB9.o.cell (i:=1) rfl
 have e2:=hB9.o.cell (i:=2) rfl
 have e3:=hB9.o.cell (i:=3) rfl
 have e4:=hB9.o.cell (i:=4) rfl
 have e5:=hB9.o.cell (i:=5) rfl
 refine bodyPost_ret (v:=rval l.r) (by simp [results,Tryz.results41,go_sem,e0,e1,e2,e3,e4,e5]) rfl ?_
 exact⟨rfl,ho9.o.below L0.o (Mr _) L0.o.size⟩
theorem qje (w:World):Calls Tryz.prog 41 #[.pointer none] w fun e w'=>e=.returned (rval Rc.none)∧Bw w w':=by
 have L0:=Hz (show Bw w (w.alloc (.cells (rcells Rc.none).toArray 54)) from (Mb _ _).alloc (Mr _) _)
 have HB0:=Hz (show Blk (w.alloc (.cells (rcells Rc.none).toArray 54)) w.heap.size 54 (rcells Rc.none) from Blk.new w _ _)
 go_enter Tryz.func41,Tryz.ntmps41
 go_wp2_with (refine Qq rfl 54 (.tmp 2) (.tmp 5) rfl w.heap.size rfl (rcells Rc.none) rfl HB0.o rfl Jz (RecN.one_r _) ?_;intro w9 hB9 ho9)
 have e0:=hB9.o.cell (i:=0) rfl
 have e1:=hB9.o.cell (i:=1) rfl
 have e2:=hB9.o.cell (i:=2) rfl
 have e3:=hB9.o.cell (i:=3) rfl
 have e4:=hB9.o.cell (i:=4) rfl
 have e5:=hB9.o.cell (i:=5) rfl
 refine bodyPost_ret (v:=rval Rc.none) (by simp [results,Tryz.results41,go_sem,e0,e1,e2,e3,e4,e5]) rfl ?_
 exact⟨rfl,ho9.o.below L0.o (Mr _) L0.o.size⟩
end CmtN
namespace CmtN
open Kit Byt Mem DskA RecM CmtM StgM
open RecA (rval rcells rok)
def nexty (l:Lg) (r:Rc):Rc:=⟨l.p,l.r.q+1,r.a,r.c,r.l,r.b⟩
def sv (s:St) (l:Lg) (r:Rc):St×Lg×Int:=
 if l.r.q=4294967295 then (s,l,4)
 else if (nexty l r).right then
  (if (put1 s (10*l.p+(1-l.i)) (shut (nexty l r).bytes)).2=0 then ((put1 s (10*l.p+(1-l.i)) (shut (nexty l r).bytes)).1,⟨l.p,nexty l r,1-l.i⟩,0)
   else ((put1 s (10*l.p+(1-l.i)) (shut (nexty l r).bytes)).1,l,(put1 s (10*l.p+(1-l.i)) (shut (nexty l r).bytes)).2))
 else (s,l,3)
structure LD (w:World) (F J:Nat→Prop) (g a:Nat) (s:St) (l:Lg):Prop where
 dk:Dk w F g s
 lm:Lm w J a g l
 dis:∀i,F i→¬J i
 most:s.L.length≤1000000
 fits:l.p≤3∧10*l.p+2≤s.S.length
 i1:l.i≤1
 q:0≤l.r.q∧l.r.q≤4294967295
section
variable {w w1:World} {F F1 J:Nat→Prop} {g a:Nat} {s s1:St} {l:Lg}
theorem Lgo.disk {v:Value} (h:LD w F J g a s l) (hD:Dk w1 F1 g s1) (hk:Keep F w w1) (hf:∀i,F1 i→F i∨w.heap.size≤i):Lgo F J g a w v s1 l (.returned v) w1:=
 ⟨rfl,F1,J,hD,h.lm.keep hk fun i hj hF=>h.dis i hF hj,fun i hF hj=>by
  rcases hf i hF with h4|h4
  ·exact h.dis i h4 hj
  ·have:=h.lm.lt i hj;omega,hk.mono fun _ _ h=>.inl h,fun i hi=>(hf i hi).imp .inl id,fun i hi=>.inl (.inr hi)⟩
theorem LD.fa (h:LD w F J g a s l) : ¬F a:=fun hF=>h.dis a hF ((h.lm.own a).2 rfl)
theorem rok_next (h:LD w F J g a s l) {r:Rc} (hr:rok r):rok (nexty l r):=by
 have h1:=h.fits.1
 have h2:=h.q
 exact⟨⟨by show -9223372036854775808≤(l.p:Int);omega,by show (l.p:Int)≤9223372036854775807;omega⟩,⟨by show -9223372036854775808≤l.r.q+1;omega,by show l.r.q+1≤9223372036854775807;omega⟩,hr.a,hr.c,hr.l,hr.b⟩
theorem save_at (h:LD w F J g a s l) (r:Rc) (hr:rok r) :
 Calls Tryz.prog 46 #[.pointer (some ⟨a,0,none⟩),rval r] w (Lgo F J g a w (.int .i64 (sv s l r).2.2) (sv s l r).1 (sv s l r).2.1):=by
 have H:=Hz h
 have L0:=Hz (show Bw w (w.alloc (.cells #[.int .i64 r.p,.int .i64 r.q,.int .i64 r.a,.int .i64 r.c,.int .i64 r.l,.int .i64 r.b] 54)) from (Mb _ _).alloc (Mr _) _)
 have HX0:=Hz (show Blk (w.alloc (.cells #[.int .i64 r.p,.int .i64 r.q,.int .i64 r.a,.int .i64 r.c,.int .i64 r.l,.int .i64 r.b] 54)) w.heap.size 54 (rcells r) from Blk.new w _ _)
 have HK:=Hz (rok_next h hr)
 have hal:=h.lm.blk.lt
 obtain⟨c0,c1,c3,c8⟩:=h.lm.cells
 have hq0:=h.q
 obtain⟨R,hR⟩:∃R,R=sv s l r:=⟨_,rfl⟩
 rw [←hR]
 have HR:=Hz hR
 obtain⟨q,hq⟩:∃q,q=l.r.q:=⟨_,rfl⟩
 obtain⟨p,hp⟩:∃p,p=l.p:=⟨_,rfl⟩
 have hp3:=h.fits.1
 have hi1:=h.i1
 rw [←hp] at c1 hp3
 rw [←hq] at c3 hq0
 have HQ:=Hz hq
 have HP:=Hz hp
 clear h hr hR hq hp
 by_cases hf:q=4294967295
 ·subst hf
  have hRR:R=(s,l,4):=by rw [HR.o];unfold sv;rw [if_pos HQ.o.symm]
  clear HR
  go_enter Tryz.func46,Tryz.ntmps46
  go_wp2
  go_ret
  rw [hRR]
  exact Lgo.disk H.o (H.o.dk.below L0.o) (Keep.of_below L0.o) fun i hi=>.inl hi
 ·obtain⟨y,hy⟩:∃y:Rc,y=⟨(p:Int),q+1,r.a,r.c,r.l,r.b⟩:=⟨_,rfl⟩
  have hyn:y=nexty l r:=by rw [hy,HP.o,HQ.o];rfl
  have LA:=Hz (show Bw w (w.alloc (.cells (rcells y).toArray 54)).drew from ((Mb _ _).alloc (Mr _) _).drew)
  have HXA:=Hz (show Blk (w.alloc (.cells (rcells y).toArray 54)).drew w.heap.size 54 (rcells y) from Blk.new w _ _)
  have HAL:(w.alloc (.cells #[.int .i64 (p:Nat),.int .i64 (q+1),.int .i64 r.a,.int .i64 r.c,.int .i64 r.l,.int .i64 r.b] 54)).drew=(w.alloc (.cells (rcells y).toArray 54)).drew:=by rw [hy];rfl
  have HALH:=Hz HAL
  rw [←hyn] at HK
  have HYN:=Hz hyn
  have HV:=Hz (show rval y=.agg #[.int .i64 (p:Nat),.int .i64 (q+1),.int .i64 r.a,.int .i64 r.c,.int .i64 r.l,.int .i64 r.b] from by rw [hy])
  clear hyn HAL hy
  by_cases hr:y.right
  ·have hRR:R=if (put1 s (10*l.p+(1-l.i)) (shut y.bytes)).2=0 then ((put1 s (10*l.p+(1-l.i)) (shut y.bytes)).1,⟨l.p,y,1-l.i⟩,0) else ((put1 s (10*l.p+(1-l.i)) (shut y.bytes)).1,l,(put1 s (10*l.p+(1-l.i)) (shut y.bytes)).2):=by
    rw [HR.o];unfold sv;rw [if_neg (by rw [←HQ.o];exact hf),←HYN.o,if_pos hr]
   have HPUT:=Hz (RecN.qqk y (w.alloc (.cells (rcells y).toArray 54)).drew HK.o hr)
   have HBL:=Hz (show (shut y.bytes).length=64 from J8 (by rw [Rc.bytes_len];omega))
   obtain⟨P,hP⟩:∃P,P=put1 s (10*l.p+(1-l.i)) (shut y.bytes):=⟨_,rfl⟩
   have h08:=K2 s (10*l.p+(1-l.i)) (shut y.bytes)
   rw [←hP] at h08 hRR
   have HW:=Hz (fun w' (hb:Bw w w') A c (hR:Rd w' A 64 c (u8n (shut y.bytes))) (hA:∀b o,A=some ⟨b,o,none⟩→¬F b)=>write_any (H.o.dk.below hb) (H.o.lm.below hb) H.o.fa H.o.fits.1 (i:=1-l.i) (by omega) H.o.fits.2 hR hA H.o.most)
   obtain⟨o,ho⟩:∃o,o=1-l.i:=⟨_,rfl⟩
   rw [←ho] at hP hRR HW
   have hcase:(l.i=0∧o=1)∨(l.i=1∧o=0):=by omega
   rw [←hP] at HW
   obtain⟨x,hx⟩:∃x,x=P.2:=⟨_,rfl⟩
   rw [←hx] at h08 hRR HW
   have HX:=Hz hx
   have Ho:=Hz ho
   have HPP:=Hz hP
   rw [HV.o] at HPUT
   obtain⟨i,hi⟩:∃i,i=l.i:=⟨_,rfl⟩
   rw [←hi] at c8 hcase
   have HI:=Hz hi
   have hFl:=Hz (H.o.dk.lt)
   have haJ:=Hz ((H.o.lm.own a).2 rfl)
   clear HR hr HV HX0 ho hP hx hi hi1
   rcases hcase with⟨rfl,rfl⟩|⟨rfl,rfl⟩ <;> rcases h08 with rfl|rfl
   all_goals
    go_enter Tryz.func46,Tryz.ntmps46
    go_wp2_with fail
    go_region
    go_wp2_with fail
    rw [HALH.o]
    refine HPUT.o.mono ?_
    rintro e w1 ⟨B,m,d,rfl,hown,hb1⟩
    obtain rfl:m=64:=by { have h1:=hown.1;rw [Qv,HBL.o] at h1;omega }
    have L1:=Hz (LA.o.trans (hb1.mono LA.o.size))
    have HX1:=Hz (HXA.o.below hb1)
    have HBF:=Hz (show ∀b o,B=some ⟨b,o,none⟩→¬F b from fun b o hB hF=>by
     have h1:=(hown.lt b (by rw [hB];rfl)).1
     have h2:=hFl.o b hF
     have h3:=LA.o.size
     omega)
    have HRD:=Hz (Rd.own hown)
    have b8:=(L1.o.cell (p:=⟨a,8,none⟩) hal).trans c8
    clear hb1 hown
    go_wp2_with fail
    refine (HW.o w1 L1.o B d HRD.o HBF.o).mono ?_
    rintro e w2 ⟨rfl,F1,hD1,hk1,hf1⟩
    have HK2:=Hz ((Keep.of_below L1.o).trans hk1 fun i hi=>.inl hi)
    have HF2:=Hz (show ∀i,F1 i→F i∨w.heap.size≤i from fun i hi=>(hf1 i hi).imp id fun h=>Ml L1.o.size h)
    have HD2:=Hz hD1
    have HX2:=Hz (hk1.blk HX1.o fun hF=>by have:=hFl.o _ hF;omega)
    have HL2:=Hz (hk1.blk (H.o.lm.below L1.o).blk H.o.fa)
    clear hD1 hk1 hf1
   rotate_left 1
   iterate 2
    ·go_wp2
     go_ret
     rw [hRR,if_neg (by omega)]
     exact Lgo.disk H.o HD2.o HK2.o HF2.o
    rotate_left 1
   all_goals
    go_wp2_with (first
     | (refine Qj rfl 54 _ rfl w.heap.size rfl HX2.o Tryz.underlying54 rfl Jz ?_)
     | (refine Qk rfl 54 (.tmp 57) (.tmp 54) rfl a 2 rfl (rcells y) rfl HL2.o (by simp [lgc,rcells]) Jz (RecN.one_r _) ?_;intro w3 hB3 ho3;have e8:=hB3.o.cell (i:=8) rfl;have f8:=hB3.o.frozen 8))
    go_ret
    rw [hRR,if_pos trivial]
    have hB4:=hB3.o.set 8 (.int .i64 ((1-l.i:Nat):Int))
    have hk4:Keep (fun i=>i=a) w2 (w3.setCell ⟨a,8,none⟩ (.int .i64 ((1-l.i:Nat):Int))):=(Keep.only (F:=fun i=>i=a) ho3.o rfl).trans (Keep.set (F:=fun i=>i=a) w3 8 _ rfl) fun i hi=>.inl hi
    rw [←Ho.o] at hB4 hk4
    have haF1 : ¬F1 a:=fun hF=>by
     rcases HF2.o a hF with h1|h1
     ·exact H.o.fa h1
     ·omega
    refine⟨rfl,F1,J,HD2.o.keep hk4 (fun i hF (e:i=a)=>haF1 (e▸hF)),⟨hB4,H.o.lm.own,HK.o⟩,fun i hF hj=>haF1 ((H.o.lm.own i).1 hj▸hF),?_,fun i hi=>(HF2.o i hi).imp .inl id,fun i hi=>.inl (.inr hi)⟩
    exact (HK2.o.mono (fun _ _ h=>Or.inl h)).trans (hk4.mono (G:=fun i=>F i∨J i) fun i _ (e:i=a)=>.inr (e▸haJ.o)) fun i hi=>.inl hi
  ·have hRR:R=(s,l,3):=by rw [HR.o];unfold sv;rw [if_neg (by rw [←HQ.o];exact hf),if_neg (by rw [←HYN.o];exact hr)]
   have HPUT:=Hz (RecN.rput_no y (w.alloc (.cells (rcells y).toArray 54)).drew HK.o hr)
   rw [HV.o] at HPUT
   clear HR hr HV HK HXA HX0
   go_enter Tryz.func46,Tryz.ntmps46
   go_wp2_with fail
   go_region
   go_wp2_with fail
   rw [HALH.o]
   refine HPUT.o.mono ?_
   rintro e w1 ⟨rfl,hb1⟩
   have L1:=Hz (LA.o.trans (hb1.mono LA.o.size))
   clear hb1
   go_wp2
   go_ret
   rw [hRR]
   exact Lgo.disk H.o (H.o.dk.below L1.o) (Keep.of_below L1.o) fun i hi=>.inl hi
end
end CmtN
namespace CmtN
open Mem RecM
open RecA (rval rcells rok)
def best (c d:Rc):Nat:=if c.q<d.q then 1 else 0
theorem qjf (c d:Rc) (w:World):Calls Tryz.prog 119 #[.agg (rcells c++rcells d).toArray] w fun e w'=>e=.returned (.int .i64 (best c d:Nat))∧Bw w w':=by
 show Calls _ _ #[.agg #[.int .i64 c.p,.int .i64 c.q,.int .i64 c.a,.int .i64 c.c,.int .i64 c.l,.int .i64 c.b,.int .i64 d.p,.int .i64 d.q,.int .i64 d.a,.int .i64 d.c,.int .i64 d.l,.int .i64 d.b]] w _
 have L0:=Hz (show Bw w (w.alloc (.cells #[.int .i64 c.p,.int .i64 c.q,.int .i64 c.a,.int .i64 c.c,.int .i64 c.l,.int .i64 c.b,.int .i64 d.p,.int .i64 d.q,.int .i64 d.a,.int .i64 d.c,.int .i64 d.l,.int .i64 d.b] 206)) from (Mb _ _).alloc (Mr _) _)
 have B0:=Hz (show Blk (w.alloc (.cells #[.int .i64 c.p,.int .i64 c.q,.int .i64 c.a,.int .i64 c.c,.int .i64 c.l,.int .i64 c.b,.int .i64 d.p,.int .i64 d.q,.int .i64 d.a,.int .i64 d.c,.int .i64 d.l,.int .i64 d.b] 206)) w.heap.size 206 (rcells c++rcells d) from Blk.new w _ _)
 go_enter Tryz.func119,Tryz.ntmps119
 go_wp2
 obtain⟨w0,hw0⟩:∃w0,w0=w.alloc (.cells #[.int .i64 c.p,.int .i64 c.q,.int .i64 c.a,.int .i64 c.c,.int .i64 c.l,.int .i64 c.b,.int .i64 d.p,.int .i64 d.q,.int .i64 d.a,.int .i64 d.c,.int .i64 d.l,.int .i64 d.b] 206):=⟨_,rfl⟩
 rw [←hw0] at L0 B0 ⊢
 clear hw0
 go_loopw [3,5] (fun b i wr=>∃(k m:Nat),k≤2∧i=.int .i64 k∧b=.int .i64 m∧Hid (Bw w wr)∧Hid (Blk wr w.heap.size 206 (rcells c++rcells d))∧Hid ((k<2→m=0)∧(k=2→m=best c d))) (fun _ i _=>2-(intOf i).toNat)
 case atStart=>exact⟨0,0,by omega,rfl,rfl,L0,B0,Hz ⟨fun _=>rfl,fun h=>by omega⟩⟩
 case round=>
  obtain⟨k,m,hk,rfl,rfl,HL,HB,HM⟩:=hrel
  have x1:wr.cell? ⟨w.heap.size,1,none⟩=some (.int .i64 c.q):=HB.o.cell rfl
  have x7:wr.cell? ⟨w.heap.size,7,none⟩=some (.int .i64 d.q):=HB.o.cell rfl
  rcases (show k=0∨k=1∨k=2 by omega) with rfl|rfl|rfl
  ·obtain rfl:m=0:=HM.o.1 (by omega)
   go_wp2
   go_region
   go_wp2
   go_roundw
   case rel=>exact⟨1,0,by omega,by go_num,by go_num,Hz HL.o.drew,Hz HB.o,Hz ⟨fun _=>rfl,fun h=>by omega⟩⟩
   case measure=>simp [intOf]
  ·obtain rfl:m=0:=HM.o.1 (by omega)
   by_cases hlt:c.q<d.q
   ·have HT:=Hz (show 1=best c d from by unfold best;rw [if_pos hlt])
    go_wp2
    go_region
    go_wp2
    go_roundw
    case rel=>exact⟨2,1,by omega,by go_num,by go_num,Hz HL.o.drew,Hz HB.o,Hz ⟨fun h=>by omega,fun h=>HT.o⟩⟩
    case measure=>simp [intOf]
   ·have HT:=Hz (show 0=best c d from by unfold best;rw [if_neg hlt])
    go_wp2
    go_region
    go_wp2
    go_roundw
    case rel=>exact⟨2,0,by omega,by go_num,by go_num,Hz HL.o.drew,Hz HB.o,Hz ⟨fun h=>by omega,fun h=>HT.o⟩⟩
    case measure=>simp [intOf]
  ·obtain rfl:m=best c d:=HM.o.2 rfl
   go_wp2
   go_ret
   exact⟨rfl,HL.o⟩
end CmtN
namespace CmtN
open Kit Byt Mem DskA DskD RecM CmtM
open RecA (rval rcells rok)
theorem Yu:(Tryz.prog.info? 206).map (·.size)=some 12:=by kernel_rfl
def zer:List Value:=rcells Rc.none++rcells Rc.none
def hcs (c d:Rc) (k:Nat):List Value:=if k=0 then zer else if k=1 then rcells c++rcells Rc.none else rcells c++rcells d
theorem one_two (c d:Rc):∀u ∈ rcells c++rcells d,u.oneCell'=true:=by
 intro u hu
 rcases List.mem_append.1 hu with h|h
 ·exact RecN.one_r c u h
 ·exact RecN.one_r d u h
theorem hcs_none {c d y:Rc} {k:Nat} (hk:k<2) (hc:k=0→y=c) (hd:k=1→y=d) (hy:y=Rc.none):hcs c d k=hcs c d (k+1):=by
 rcases (show k=0∨k=1 by omega) with rfl|rfl
 ·rw [show c=Rc.none from (hc rfl).symm.trans hy];rfl
 ·rw [show d=Rc.none from (hd rfl).symm.trans hy];rfl
theorem hcs_yes {c d y:Rc} {k:Nat} (hk:k<2) (hc:k=0→y=c) (hd:k=1→y=d):splice (hcs c d k) (6*k) (rcells y)=hcs c d (k+1):=by
 rcases (show k=0∨k=1 by omega) with rfl|rfl
 ·rw [show y=c from hc rfl];rfl
 ·rw [show y=d from hd rfl];rfl
theorem qvf (c d:Rc) (k:Nat):(hcs c d k).length=12:=by
 unfold hcs
 split
 ·rfl
 ·split <;> rfl
section
variable {w:World} {F J:Nat→Prop} {a g:Nat} {s:St} {l:Lg}
theorem held_any (hD:Dk w F g s) (h:Lm w J a g l) (hp:l.p≤3) (hf:10*l.p+2≤s.S.length) (hu:s.down=false) (hL:s.L.length≤1000000) (hb:∀i,byt (now s i)) :
 Calls Tryz.prog 118 #[.pointer (some ⟨a,0,none⟩)] w fun e w'=>e=.returned (.tuple #[.agg (rcells (cp l.p (now s (10*l.p)))++rcells (cp l.p (now s (10*l.p+1)))).toArray,.int .i64 0])∧Bw w w':=by
 obtain⟨c0,c1,_,_⟩:=h.cells
 have hal:=h.blk.lt
 have H:=Hz h
 have HP3:=Hz hp
 have HRD:=Hz (fun k w' (hk:k≤1) (hb:Bw w w')=>read_ok F g s (10*l.p+k) w' (hD.below hb) (by omega) hu (by omega))
 have HBY:=Hz hb
 obtain⟨p,hpp⟩:∃p,p=l.p:=⟨_,rfl⟩
 rw [←hpp] at c1 HRD ⊢
 have HPP:=Hz hpp
 clear hD h hp hf hu hL hb hpp
 obtain⟨x0,hx0⟩:∃x0,x0=now s (10*p):=⟨_,rfl⟩
 obtain⟨x1,hx1⟩:∃x1,x1=now s (10*p+1):=⟨_,rfl⟩
 rw [←hx0,←hx1]
 have HX:=Hz (And.intro hx0 hx1)
 clear hx0 hx1
 obtain⟨c,hc⟩:∃c,c=cp p x0:=⟨_,rfl⟩
 obtain⟨d,hd⟩:∃d,d=cp p x1:=⟨_,rfl⟩
 rw [←hc,←hd]
 have HCD:=Hz (And.intro hc hd)
 clear hc hd
 have L0:=Hz (show Bw w ((w.alloc (.cells zer.toArray 206)).alloc (.cells zer.toArray 206)) from ((Mb _ _).alloc (Mr _) _).alloc (by rw [Ms];omega) _)
 have B0:=Hz (show Blk ((w.alloc (.cells zer.toArray 206)).alloc (.cells zer.toArray 206)) w.heap.size 206 zer from (Blk.new w _ _).alloc _)
 have B1:=Hz (show Blk ((w.alloc (.cells zer.toArray 206)).alloc (.cells zer.toArray 206)) (w.heap.size+1) 206 zer from by have:=Blk.new (w.alloc (.cells zer.toArray 206)) 206 zer;rw [Ms] at this;exact this)
 go_enter Tryz.func118,Tryz.ntmps118
 go_wp2
 obtain⟨w0,hw0⟩:∃w0,w0=(w.alloc (.cells zer.toArray 206)).alloc (.cells zer.toArray 206):=⟨_,rfl⟩
 rw [←hw0] at L0 B0 B1
 have hw0':(w.alloc (.cells #[.int .i64 0,.int .i64 0,.int .i64 0,.int .i64 0,.int .i64 0,.int .i64 0,.int .i64 0,.int .i64 0,.int .i64 0,.int .i64 0,.int .i64 0,.int .i64 0] 206)).alloc (.cells #[.int .i64 0,.int .i64 0,.int .i64 0,.int .i64 0,.int .i64 0,.int .i64 0,.int .i64 0,.int .i64 0,.int .i64 0,.int .i64 0,.int .i64 0,.int .i64 0] 206)=w0:=hw0.symm
 rw [hw0']
 clear hw0 hw0'
 go_loopw [10] (fun i wr=>∃(k:Nat),k≤2∧i=.int .i64 k∧Hid (Bw w wr)∧Hid (Blk wr w.heap.size 206 zer)∧Hid (Blk wr (w.heap.size+1) 206 (hcs c d k))) (fun i _=>2-(intOf i).toNat)
 case atStart=>exact⟨0,by omega,rfl,L0,B0,B1⟩
 case round=>
  obtain⟨k,hk,rfl,HL,HB,HC⟩:=hrel
  by_cases hlt:k<2
  ·have HS:=Hz (sector_any ((H.o.below HL.o).below ((Mb wr.heap.size wr).drew)) HP3.o (i:=k) (by omega))
   rw [←HPP.o] at HS
   obtain⟨xs,hxs⟩:∃xs,xs=now s (10*p+k):=⟨_,rfl⟩
   have HR:=Hz (fun w' hw=>HRD.o k w' (by omega) hw)
   rw [←hxs] at HR
   have HBX:=Hz (hxs▸HBY.o (10*p+k))
   obtain⟨q,hq⟩:∃q,q=10*p+k:=⟨_,rfl⟩
   rw [←hq] at HR HS
   have d0:=(HL.o.cell (p:=⟨a,0,none⟩) hal).trans c0
   have d1:=(HL.o.cell (p:=⟨a,1,none⟩) hal).trans c1
   have hal':a<wr.heap.size:=Mw hal HL.o.size
   have HXQ:=Hz (And.intro hxs hq)
   clear hxs hq c0 c1
   go_wp2_with fail
   go_region_held3 (fun w'=>w'.cell? ⟨a,0,none⟩=some (.pointer (some ⟨g,0,none⟩)))
    (first
     | go_keep
     | (rw [hb1.cell (by simpa using hal')];assumption)
     | (rw [hb2.cell (by simpa using hal1)];assumption))
    ((first
      | (have hq:=HB1;clear hq;go_at_call 27;refine (HR.o _ HB1.o).mono ?_;rintro e w2 ⟨A,rfl,hown,hb2⟩;have HB2:=Hz hb2;have HOW:=Hz hown;clear hown)
      | (go_at_call 147;refine HS.o.mono ?_;rintro e w1 ⟨rfl,hb1⟩;have HB1:=Hz (show Bw w w1 from HL.o.trans ((((Mb wr.heap.size wr).drew).trans hb1).mono HL.o.size));have hal1:a<w1.heap.size:=Mw hal HB1.o.size)))
   have HG:=Hz (fun w' (h:Rd w' A 64 64 (u8n xs))=>RecN.qwc A 64 64 xs w' h HBX.o)
   have HCP:=Hz (show cp (p:Int) xs=if (getR xs).2≠0∨(getR xs).1.p≠p then Rc.none else (getR xs).1 from rfl)
   obtain⟨G,hG⟩:∃G,G=(getR xs).1:=⟨_,rfl⟩
   obtain⟨x,hx⟩:∃x,x=(getR xs).2:=⟨_,rfl⟩
   rw [←hG,←hx] at HG HCP
   clear hG hx
   obtain⟨gp,gq,ga,gc,gl,gb⟩:=G
   have T1:Bw wr w1:=((Mb wr.heap.size wr).drew).trans hb1
   have T2:=T1.trans (HB2.o.mono T1.size)
   have HT2:=Hz T2
   clear T1 T2 hb1 hb2 HB1 HB2 HR HS HRD
   go_wp2_with fail
   refine (HG.o w2 (Rd.own HOW.o)).mono ?_
   rintro e w3 ⟨rfl,hb3⟩
   have HT3:=Hz (HT2.o.trans (hb3.mono HT2.o.size))
   have e1:=(HT3.o.cell (p:=⟨a,1,none⟩) hal').trans d1
   have hal3:a<w3.heap.size:=Mw hal' HT3.o.size
   clear hb3 HT2 HOW d0 d1 HG
   have HB4:=Hz ((HB.o.below HT3.o).alloc (.cells (rcells ⟨gp,gq,ga,gc,gl,gb⟩).toArray 54))
   have HC4:=Hz ((HC.o.below HT3.o).alloc (.cells (rcells ⟨gp,gq,ga,gc,gl,gb⟩).toArray 54))
   have HL4:=Hz (HL.o.trans ((HT3.o.alloc HT3.o.size (.cells (rcells ⟨gp,gq,ga,gc,gl,gb⟩).toArray 54)).mono HL.o.size))
   have HY:=Hz (show (k=0→cp (p:Int) xs=c)∧(k=1→cp (p:Int) xs=d) from⟨fun h=>by rw [HCD.o.1,HX.o.1,HXQ.o.1,h];rfl,fun h=>by rw [HCD.o.2,HX.o.2,HXQ.o.1,h]⟩)
   by_cases hx:x=0
   ·subst hx
    by_cases hgp:gp=p
    ·subst hgp
     have HGC:=Hz (show cp (p:Int) xs=⟨p,gq,ga,gc,gl,gb⟩ from by rw [HCP.o,if_neg (by simp)])
     rw [HGC.o] at HY
     have HYS:=Hz (hcs_yes hlt HY.o.1 HY.o.2)
     rcases (show k=0∨k=1 by omega) with rfl|rfl
     ·go_wp2
      go_region
      go_wp2_with (refine Qk rfl 54 (.tmp 46) (.tmp 45) rfl (w.heap.size+1) 0 rfl (rcells ⟨p,gq,ga,gc,gl,gb⟩) rfl HC4.o (by rw [qvf];simp [rcells]) Jz (RecN.one_r _) ?_;intro w5 hB5 ho5)
      go_roundw
      case rel=>
       have hB6:=hB5.o
       have h6:=HYS.o
       have hn : ¬w.heap.size=w.heap.size+1:=by omega
       refine⟨1,by omega,by go_num,Hz (ho5.o.below HL4.o.drew (by omega) (HL4.o.drew).size),Hz (ho5.o.blk HB4.o hn),Hz ?_⟩
       rw [←h6]
       exact hB6
      case measure=>simp [intOf]
     ·go_wp2
      go_region
      go_wp2_with (refine Qk rfl 54 (.tmp 46) (.tmp 45) rfl (w.heap.size+1) 6 rfl (rcells ⟨p,gq,ga,gc,gl,gb⟩) rfl HC4.o (by rw [qvf];simp [rcells]) Jz (RecN.one_r _) ?_;intro w5 hB5 ho5)
      go_roundw
      case rel=>
       have hB6:=hB5.o
       have h6:=HYS.o
       have hn : ¬w.heap.size=w.heap.size+1:=by omega
       refine⟨2,by omega,by go_num,Hz (ho5.o.below HL4.o.drew (by omega) (HL4.o.drew).size),Hz (ho5.o.blk HB4.o hn),Hz ?_⟩
       rw [←h6]
       exact hB6
      case measure=>simp [intOf]
    ·have HNO:=Hz (hcs_none hlt HY.o.1 HY.o.2 (by rw [HCP.o,if_pos (.inr hgp)]))
     go_wp2
     go_region
     go_wp2
     go_roundw
     case rel=>exact⟨k+1,by omega,by go_num,Hz HL4.o.drew,Hz HB4.o,Hz (HNO.o▸HC4.o)⟩
     case measure=>simp [intOf];omega
   ·have HNO:=Hz (hcs_none hlt HY.o.1 HY.o.2 (by rw [HCP.o,if_pos (.inl hx)]))
    have hxb:(x==0)=false:=by simpa using hx
    go_wp2
    go_region
    go_wp2
    go_roundw
    case rel=>exact⟨k+1,by omega,by go_num,Hz HL4.o.drew,Hz HB4.o,Hz (HNO.o▸HC4.o)⟩
    case measure=>simp [intOf];omega
  ·obtain rfl:k=2:=by omega
   have HT:=Hz (show Blk wr (w.heap.size+1) 206 (rcells c++rcells d) from HC.o)
   clear HC
   go_wp2_with (first
    | (refine Qj rfl 206 _ rfl (w.heap.size+1) rfl HT.o Tryz.underlying206 rfl Yu ?_)
    | (refine Qq rfl 206 (.tmp 2) (.tmp 48) rfl w.heap.size rfl (rcells c++rcells d) rfl HB.o rfl Yu (one_two c d) ?_;intro w9 hB9 ho9))
   have e0:=hB9.o.cell (i:=0) rfl
   have e1:=hB9.o.cell (i:=1) rfl
   have e2:=hB9.o.cell (i:=2) rfl
   have e3:=hB9.o.cell (i:=3) rfl
   have e4:=hB9.o.cell (i:=4) rfl
   have e5:=hB9.o.cell (i:=5) rfl
   have e6:=hB9.o.cell (i:=6) rfl
   have e7:=hB9.o.cell (i:=7) rfl
   have e8:=hB9.o.cell (i:=8) rfl
   have e9:=hB9.o.cell (i:=9) rfl
   have ea:=hB9.o.cell (i:=10) rfl
   have eb:=hB9.o.cell (i:=11) rfl
   refine bodyPost_ret (v:=.tuple #[.agg (rcells c++rcells d).toArray,.int .i64 0]) (by simp [results,Tryz.results118,go_sem,rcells,e0,e1,e2,e3,e4,e5,e6,e7,e8,e9,ea,eb]) rfl ?_
   exact⟨rfl,ho9.o.below HL.o (Mr _) HL.o.size⟩
end
end CmtN
namespace CmtN
open Mem DskA DskD RecM CmtM
open RecA (rval rcells rok)
theorem Lx {p:Int} {xs:List Nat} (h:(cp p xs).q<1):cp p xs=Rc.none:=by
 unfold cp at h ⊢
 split
 ·rfl
 ·rename_i h0
  rw [if_neg h0] at h
  have h1:=Xn (xs:=xs) (Mc_ fun e=>h0 (.inl e))
  unfold Rc.right at h1
  omega
theorem T8 {r:Rc} (h:r.right):rok r:=by
 have h1:=h
 unfold Rc.right at h1
 refine⟨⟨?_,?_⟩,⟨?_,?_⟩,⟨?_,?_⟩,⟨?_,?_⟩,⟨?_,?_⟩,⟨?_,?_⟩⟩ <;> omega
theorem rok_cp (p:Int) (xs:List Nat):rok (cp p xs):=by
 by_cases h:1≤(cp p xs).q
 ·exact T8 (cp_right h)
 ·rw [Lx (by omega)];exact Yv
theorem Uw (F:Nat→Prop) (g:Nat) (s:St) (p:Nat) (w:World) (hD:Dk w F g s) (hp:p≤3) (hf:10*p+2≤s.S.length) (hu:s.down=false) (hL:s.L.length≤1000000) (hb:∀i,byt (DskD.now s i)) :
 Calls Tryz.prog 78 #[.pointer (some ⟨g,0,none⟩),.int .i64 (p:Nat)] w fun e w'=>Bw w w'∧
  ((1≤(lO s p).r.q∧∃a J,e=.returned (.tuple #[.pointer (some ⟨a,0,none⟩),.int .i64 0])∧Lm w' J a g (lO s p)∧(∀i,J i→w.heap.size≤i))∨
   ((lO s p).r.q<1∧e=.returned (.tuple #[.pointer none,.int .i64 5]))):=by
 have H1:=Hz (logOf_any F g s p w hD hp hf)
 have H2:=Hz (fun (w':World) a (hb':Bw w w') (h:Lm w' (fun i=>i=a) a g ⟨p,Rc.none,0⟩)=>held_any (hD.below hb') h hp hf hu hL hb)
 have HO:=Hz (show lO s p=⟨p,if (cp p (now s (10*p))).q<(cp p (now s (10*p+1))).q then cp p (now s (10*p+1)) else cp p (now s (10*p)),best (cp p (now s (10*p))) (cp p (now s (10*p+1)))⟩ from by
  unfold lO late best
  split <;> rfl)
 have HKC:=Hz (And.intro (rok_cp p (now s (10*p))) (rok_cp p (now s (10*p+1))))
 have HNC:=Hz (And.intro (@Lx p (now s (10*p))) (@Lx p (now s (10*p+1))))
 obtain⟨R,hR⟩:∃R,R=lO s p:=⟨_,rfl⟩
 rw [←hR] at HO ⊢
 obtain⟨c,hc⟩:∃c,c=cp (p:Int) (now s (10*p)):=⟨_,rfl⟩
 obtain⟨d,hd⟩:∃d,d=cp (p:Int) (now s (10*p+1)):=⟨_,rfl⟩
 simp only [←hc,←hd] at H2 HO HKC HNC
 clear hR hc hd hD hp hf hu hL hb
 obtain⟨m,hm⟩:∃m,m=best c d:=⟨_,rfl⟩
 obtain⟨r,hr⟩:∃r,r=if c.q<d.q then d else c:=⟨_,rfl⟩
 have HN:=Hz (fun w'=>qjf c d w')
 rw [←hm] at HN HO
 rw [←hr] at HO
 have hcase:(m=0∧r=c)∨(m=1∧r=d):=by
  rw [hm,hr];unfold best
  split
  ·exact .inr ⟨rfl,rfl⟩
  ·exact .inl ⟨rfl,rfl⟩
 have HRK:=Hz (show rok r from by rcases hcase with⟨_,e⟩|⟨_,e⟩ <;> rw [e];exact HKC.o.1;exact HKC.o.2)
 have HRN:=Hz (show r.q<1→r=Rc.none from by rcases hcase with⟨_,e⟩|⟨_,e⟩ <;> rw [e];exact HNC.o.1;exact HNC.o.2)
 clear hm hr HKC HNC
 have HDR:=Hz (show ((rcells c++rcells d).drop (m*6)).take 6=rcells r from by rcases hcase with⟨rfl,rfl⟩|⟨rfl,rfl⟩ <;> rfl)
 have hm1:m≤1:=by omega
 clear hcase
 obtain⟨b,hb⟩:∃b:Bool,b=true↔r=Rc.none:=RecA.Q3 _
 have hE:∀w:World,(Op.equalIn 10000 54 (.agg #[.int .i64 r.p,.int .i64 r.q,.int .i64 r.a,.int .i64 r.c,.int .i64 r.l,.int .i64 r.b]) (.agg #[.int .i64 0,.int .i64 0,.int .i64 0,.int .i64 0,.int .i64 0,.int .i64 0])).run Tryz.prog w=.ok b w:=fun w=>CmtC.req r Rc.none b hb w
 have HBB:=Hz (show (b=true→r.q<1)∧(b=false→1≤r.q) from⟨fun h=>by rw [hb.1 h];show (0:Int)<1;omega,fun h=>by
  refine Mc_ fun h1=>?_
  have:=hb.2 (HRN.o (by omega))
  rw [h] at this
  cases this⟩)
 clear hb
 cases b
 all_goals
  go_enter Tryz.func78,Tryz.ntmps78
  go_wp2_with (first
   | (go_at_call 117;refine H1.o.mono ?_;rintro e w1 ⟨a,rfl,ha,hlm,hb1⟩;have L1:=Hz hb1;have HA:=Hz ha;have HM1:=Hz hlm;clear hb1 ha hlm)
   | (go_at_call 118;refine (H2.o w1 a L1.o HM1.o).mono ?_;rintro e w2 ⟨rfl,hb2⟩;have L2:=Hz (L1.o.trans (hb2.mono L1.o.size));have HM2:=Hz (HM1.o.below hb2);clear hb2)
   | (refine Qq rfl 206 (.tmp 8) (.tmp 21) rfl w2.heap.size rfl (rcells c++rcells d) rfl (Blk.new w2 206 zer) rfl Yu (one_two c d) ?_;intro w3 hB3 ho3;have L3:=Hz (show Bw w w3 from ho3.o.below (L2.o.alloc L2.o.size _) L2.o.size (L2.o.alloc L2.o.size _).size);have hm2:=HM2.o.blk.lt;have HM3:=Hz (show Blk w3 a 164 (lgc g ⟨p,Rc.none,0⟩) from ho3.o.blk (HM2.o.blk.alloc _) (by omega));have HX3:=Hz hB3.o;clear hB3 ho3;obtain⟨xb,hxb⟩:∃xb,xb=w2.heap.size:=⟨_,rfl⟩;rw [←hxb] at HX3 hm2 ⊢;clear hxb)
   | (refine Qj rfl 206 _ rfl xb rfl HX3.o Tryz.underlying206 rfl Yu ?_)
   | (go_at_call 119;refine (HN.o w3).mono ?_;rintro e w4 ⟨rfl,hb4⟩;have L4:=Hz (L3.o.trans (hb4.mono L3.o.size));have HM4:=Hz (HM3.o.below hb4);have HX4:=Hz (HX3.o.below hb4);have e8:=HM4.o.cell (i:=8) rfl;have f8:=HM4.o.frozen 8;have HM5:=Hz (show Blk (w4.setCell ⟨a,8,none⟩ (.int .i64 (m:Nat))) a 164 (lgc g ⟨p,Rc.none,m⟩) from HM4.o.set 8 _);have hne:xb≠a:=(by omega);have HX5:=Hz (HX4.o.far (p:=⟨a,8,none⟩) hne (.int .i64 (m:Nat)));have hs4:=HA.o;have L5:=Hz (show Bw w (w4.setCell ⟨a,8,none⟩ (.int .i64 (m:Nat))) from (Only.set w4 a 8 _).below L4.o HA.o L4.o.size);clear hb4)
   | (refine Qz rfl 54 (.tmp 36) rfl xb (m*6) rfl [.int .i64 r.p,.int .i64 r.q,.int .i64 r.a,.int .i64 r.c,.int .i64 r.l,.int .i64 r.b] HX5.o HDR.o Tryz.underlying54 rfl Jz ?_)
   | (refine Qk rfl 54 (.tmp 39) (.tmp 37) rfl a 2 rfl (rcells r) rfl HM5.o (by simp [lgc,rcells]) Jz (RecN.one_r _) ?_;intro w6 hB6 ho6;have HM6:=Hz (show Blk w6 a 164 (lgc g ⟨p,r,m⟩) from hB6.o);have L6:=Hz (show Bw w w6 from ho6.o.below L5.o HA.o L5.o.size);clear hB6 ho6)
   | (refine Qz rfl 54 (.tmp 42) rfl a 2 rfl [.int .i64 r.p,.int .i64 r.q,.int .i64 r.a,.int .i64 r.c,.int .i64 r.l,.int .i64 r.b] HM6.o rfl Tryz.underlying54 rfl Jz ?_))
 ·have HQ:=Hz HBB.o.2
  go_ret2
  rw [HO.o]
  refine⟨L6.o,.inl ⟨by simpa using HQ.o,a,(fun i=>i=a),rfl,⟨HM6.o,fun _=>Iff.rfl,HRK.o⟩,fun i hi=>?_⟩⟩
  rw [show i=a from hi]
  exact HA.o
 ·have HQ:=Hz HBB.o.1
  go_ret2
  rw [HO.o]
  exact⟨L6.o,.inr ⟨by simpa using HQ.o,rfl⟩⟩
end CmtN
namespace CmtN
open Kit Byt Mem DskA DskF RecM CmtM StgM
open RecA (rval rcells rok)
open DskB (zs zs_len)
theorem sv_lS {s:St} {l:Lg} (r:Rc) (hp:l.r.p=l.p) (hq:l.r.q≤4294967295):sv s l r=lS s l r:=by
 have e:nextR l.r r=nexty l r:=by unfold nextR nexty;rw [hp]
 by_cases h:l.r.q=4294967295
 ·have e2:nx l.r r=(l.r,4):=by unfold nx;rw [if_pos (by omega)]
  unfold sv lS
  rw [if_pos h,e2,if_pos (by show (4:Int)≠0;omega)]
 ·by_cases hr:(nexty l r).right
  ·have e2:nx l.r r=(nexty l r,0):=by unfold nx;rw [if_neg (by omega),e,if_pos hr]
   unfold sv lS
   rw [if_neg h,if_pos hr,e2,e]
   rcases K2 s (10*l.p+(1-l.i)) (shut (nexty l r).bytes) with h0|h0
   ·rw [if_pos h0,if_neg (show ¬((nexty l r,(0:Int)).2≠0) from by simp),if_pos h0]
   ·rw [if_neg (show ¬(put1 s (10*l.p+(1-l.i)) (shut (nexty l r).bytes)).2=0 from by omega),if_neg (show ¬((nexty l r,(0:Int)).2≠0) from by simp),if_neg (show ¬(put1 s (10*l.p+(1-l.i)) (shut (nexty l r).bytes)).2=0 from by omega),h0]
  ·have e2:nx l.r r=(l.r,3):=by unfold nx;rw [if_neg (by omega),e,if_neg hr]
   unfold sv lS
   rw [if_neg h,if_neg hr,e2,if_pos (by show (3:Int)≠0;omega)]
theorem LS.ld {w:World} {F J:Nat→Prop} {g a:Nat} {s:St} {l:Lg} (h:LS w F J g a s l):LD w F J g a s l:=by
 have h1:=h.rec_.1
 unfold Rc.right at h1
 exact⟨h.dk,h.lm,h.dis,h.most,h.fits,h.rec_.2.2,by omega⟩
theorem qqp (F J:Nat→Prop) (g a:Nat) (s:St) (l:Lg) (r:Rc) (w:World) (h:LS w F J g a s l) (hr:rok r) :
 Calls Tryz.prog 46 #[.pointer (some ⟨a,0,none⟩),rval r] w (Lgo F J g a w (.int .i64 (lS s l r).2.2) (lS s l r).1 (lS s l r).2.1):=by
 have h1:=h.ld.q
 rw [←sv_lS r h.rec_.2.1 h1.2]
 exact save_at h.ld r hr
theorem sv_one (s:St) {p:Nat} (hp:p≤3):sv s ⟨p,Rc.none,1⟩ Rc.none=if (put1 s (10*p) (shut (one p).bytes)).2=0 then ((put1 s (10*p) (shut (one p).bytes)).1,⟨p,one p,0⟩,0) else ((put1 s (10*p) (shut (one p).bytes)).1,⟨p,Rc.none,1⟩,(put1 s (10*p) (shut (one p).bytes)).2):=by
 have e:nexty ⟨p,Rc.none,1⟩ Rc.none=one p:=rfl
 unfold sv
 rw [e,if_neg (by show ¬(0:Int)=4294967295;omega),if_pos (one_right hp)]
 rfl
theorem T9 {s:St} {i:Nat} {bs:List Nat} (h:(put1 s i bs).2=0):(put1 s i bs).1.L=[]:=by
 unfold put1 at h ⊢
 split
 ·rename_i h0;rw [if_pos h0] at h;exact absurd h (by show ¬(8:Int)=0;omega)
 ·rename_i h0
  rw [if_neg h0] at h
  split
  ·rename_i h1;rw [if_pos h1] at h;exact absurd h (by show ¬(8:Int)=0;omega)
  ·rfl
theorem qjg (F:Nat→Prop) (g:Nat) (s:St) (p:Nat) (w:World) (hD:Dk w F g s) (hp:p≤3) (hf:10*p+2≤s.S.length) (_hu:s.down=false) (hL:s.L.length≤1000000) :
 Calls Tryz.prog 103 #[.pointer (some ⟨g,0,none⟩),.int .i64 (p:Nat)] w fun e w'=>∃F',Dk w' F' g (lF s p).1∧Keep F w w'∧(∀i,F' i→F i∨w.heap.size≤i)∧
  (((lF s p).2=0∧∃a J,e=.returned (.tuple #[.pointer (some ⟨a,0,none⟩),.int .i64 0])∧Lm w' J a g ⟨p,one p,0⟩∧(∀i,J i→w.heap.size≤i)∧(∀i,F' i→¬J i))∨
   ((lF s p).2=8∧e=.returned (.tuple #[.pointer none,.int .i64 8]))):=by
 obtain⟨Z,hZ⟩:∃Z,Z=(u8n (zs 64)).toArray:=⟨_,rfl⟩
 have hmk:=mk64
 simp only [←hZ] at hmk
 have HBZ:=Hz (show ∀w':World,Rd (w'.alloc (.cells Z 5)) (some ⟨w'.heap.size,0,none⟩) 64 64 (u8n (zs 64)) from fun w'=>blk_rd (t:=5) (by rw [hZ];exact Blk.new w' _ _) (zs_len 64) (by omega))
 have H1:=Hz (logOf_any F g s p w hD hp hf)
 have HD:=Hz hD
 have HF:=Hz (And.intro hp (And.intro hf hL))
 clear hZ hD hp hf hL
 go_enter Tryz.func103,Tryz.ntmps103
 go_wp2_with (go_at_call 117;refine H1.o.mono ?_;rintro e w1 ⟨a,rfl,ha,hlm,hb1⟩;have L1:=Hz hb1;have HA:=Hz ha;have HM1:=Hz hlm;have e8:=HM1.o.blk.cell (i:=8) rfl;have f8:=HM1.o.blk.frozen 8;clear hb1 ha hlm)
 have HM2:=Hz (show Lm (w1.setCell ⟨a,8,none⟩ (.int .i64 1)) (fun i=>i=a) a g ⟨p,Rc.none,1⟩ from⟨HM1.o.blk.set 8 _,fun _=>Iff.rfl,Yv⟩)
 have L2:=Hz (show Bw w (w1.setCell ⟨a,8,none⟩ (.int .i64 1)) from (Only.set w1 a 8 _).below L1.o HA.o L1.o.size)
 obtain⟨w2,hw2⟩:∃w2,w2=w1.setCell ⟨a,8,none⟩ (.int .i64 1):=⟨_,rfl⟩
 rw [←hw2] at HM2 L2 ⊢
 clear hw2 e8 f8 HM1 L1
 have e8:w2.cell? ⟨a,8,none⟩=some (.int .i64 1):=HM2.o.blk.cell rfl
 have hal:=HM2.o.blk.lt
 obtain⟨P,hP⟩:∃P,P=put1 s (10*p+1) (zs 64):=⟨_,rfl⟩
 have h08:=K2 s (10*p+1) (zs 64)
 have HW:=Hz (fun (w':World) (hb:Bw w2 w') A (hR:Rd w' A 64 64 (u8n (zs 64))) (hA:∀b o,A=some ⟨b,o,none⟩→¬F b)=>write_any (i:=1) (HD.o.below (L2.o.trans (hb.mono L2.o.size))) (HM2.o.below hb) (fun hF=>by have:=HD.o.lt a hF;have:=HA.o;omega) HF.o.1 (Mr 1) HF.o.2.1 hR hA HF.o.2.2)
 dsimp only at HW
 rw [←hP] at HW h08
 have HP:=Hz hP
 have HLF:=Hz (show lF s p=if P.2=0 then put1 P.1 (10*p) (shut (one p).bytes) else (P.1,8) from by rw [hP];rfl)
 obtain⟨x,hx⟩:∃x,x=P.2:=⟨_,rfl⟩
 rw [←hx] at HW h08 HLF
 have HX:=Hz hx
 clear hP hx
 have hlt0:∀b,w2.heap.size≤b→¬F b:=fun b hb hF=>by have:=HD.o.lt b hF;have:=L2.o.size;omega
 have HLT:=Hz hlt0
 clear hlt0
 have hsv:=sv_one P.1 HF.o.1
 obtain⟨Q,hQ⟩:∃Q,Q=put1 P.1 (10*p) (shut (one p).bytes):=⟨_,rfl⟩
 have hq08:=K2 P.1 (10*p) (shut (one p).bytes)
 rw [←hQ] at hsv hq08 HLF
 obtain⟨y,hy⟩:∃y,y=Q.2:=⟨_,rfl⟩
 rw [←hy] at hsv hq08
 have HY:=Hz hy
 have HSV:=Hz hsv
 have LZ:=Hz (show Bw w2 (w2.alloc (.cells Z 5)).drew from ((Mb _ _).alloc (Mr _) _).drew)
 have HRZ:=Hz (show Rd (w2.alloc (.cells Z 5)).drew (some ⟨w2.heap.size,0,none⟩) 64 64 (u8n (zs 64)) from HBZ.o w2)
 have HAZ:=Hz (show ∀b o,(some ⟨w2.heap.size,0,none⟩:Option Addr)=some ⟨b,o,none⟩→¬F b from fun b o h=>by
  injection h with h
  injection h with h _
  exact HLT.o b (by omega))
 have haF : ¬F a:=fun hF=>by have:=HD.o.lt a hF;have:=HA.o;omega
 have HAF:=Hz haF
 clear hQ hy hsv haF
 rcases h08 with rfl|rfl
 rcases hq08 with rfl|rfl
 ·rw [if_pos rfl] at HSV HLF
  go_wp2_with fail
  go_region_held3 (fun w'=>w'.cell? ⟨a,8,none⟩=some (.int .i64 1))
   (first
    | go_keep
    | exact HK3.o)
   ((go_at_call 95;refine (HW.o _ LZ.o _ HRZ.o HAZ.o).mono ?_;rintro e w3 ⟨rfl,F1,hD1,hk1,hf1⟩;have HM3:=Hz ((HM2.o.below LZ.o).keep hk1 fun i hi hF=>HAF.o ((show i=a from hi)▸hF));have HK3:=Hz (show w3.cell? ⟨a,8,none⟩=some (.int .i64 1) from HM3.o.blk.cell rfl);have HD3:=Hz hD1;have KK3:=Hz ((Keep.of_below (L2.o.trans (LZ.o.mono L2.o.size))).trans hk1 fun i hi=>.inl hi);have FF3:=Hz (show ∀i,F1 i→F i∨w.heap.size≤i from fun i hi=>(hf1 i hi).imp id fun h=>Ml (Ml L2.o.size LZ.o.size) h);have hs3:=hk1.size;have HNA:=Hz (show ∀i,F1 i→i≠a from fun i hi e=>by { rcases hf1 i hi with h|h;exact HAF.o (e▸h);have:=LZ.o.size;have:w2.heap.size≤i:=Ml LZ.o.size h;omega });clear hD1 hk1 hf1))
  have HLD:=Hz (show LD w3 F1 (fun i=>i=a) g a P.1 ⟨p,Rc.none,1⟩ from⟨HD3.o,HM3.o,HNA.o,by rw [HP.o,T9 (by rw [←HP.o,←HX.o])];exact Nat.zero_le _,⟨HF.o.1,by rw [HP.o,U3];exact HF.o.2.1⟩,Mr 1,⟨by show (0:Int)≤0;omega,by show (0:Int)≤4294967295;omega⟩⟩)
  have HSA:=Hz (save_at HLD.o Rc.none Yv)
  rw [HSV.o] at HSA
  go_wp2_with (go_at_call 46;refine HSA.o.mono ?_;rintro e w4 ⟨rfl,F2,J2,hD4,hM4,hdj,hk4,hf4,hj4⟩;have HD4:=Hz hD4;have HM4:=Hz hM4;have HDJ:=Hz hdj;have KK4:=Hz hk4;have FF4:=Hz hf4;clear hD4 hM4 hdj hk4 hf4 hj4)
  go_ret2
  rw [HLF.o]
  have ha:=HA.o
  have hs0:=L2.o.size
  have hs1:=LZ.o.size
  refine⟨F2,HD4.o,?_,fun i hi=>?_,.inl ⟨HY.o.symm,a,J2,rfl,HM4.o,fun i hi=>by rw [(HM4.o.own i).1 hi];exact ha,HDJ.o⟩⟩
  ·refine KK3.o.trans KK4.o fun i hi=>?_
   rcases hi with h|h
   ·exact FF3.o i h
   ·exact .inr (by omega)
  ·rcases FF4.o i hi with (h|h)|h
   ·exact FF3.o i h
   ·exact .inr (by omega)
   ·exact .inr (Ml (Ml hs0 hs1) (Ml hs3 h))
 ·rw [if_neg (show ¬(8:Int)=0 by omega)] at HSV
  rw [if_pos rfl] at HLF
  go_wp2_with fail
  go_region_held3 (fun w'=>w'.cell? ⟨a,8,none⟩=some (.int .i64 1))
   (first
    | go_keep
    | exact HK3.o)
   ((go_at_call 95;refine (HW.o _ LZ.o _ HRZ.o HAZ.o).mono ?_;rintro e w3 ⟨rfl,F1,hD1,hk1,hf1⟩;have HM3:=Hz ((HM2.o.below LZ.o).keep hk1 fun i hi hF=>HAF.o ((show i=a from hi)▸hF));have HK3:=Hz (show w3.cell? ⟨a,8,none⟩=some (.int .i64 1) from HM3.o.blk.cell rfl);have HD3:=Hz hD1;have KK3:=Hz ((Keep.of_below (L2.o.trans (LZ.o.mono L2.o.size))).trans hk1 fun i hi=>.inl hi);have FF3:=Hz (show ∀i,F1 i→F i∨w.heap.size≤i from fun i hi=>(hf1 i hi).imp id fun h=>Ml (Ml L2.o.size LZ.o.size) h);have hs3:=hk1.size;have HNA:=Hz (show ∀i,F1 i→i≠a from fun i hi e=>by { rcases hf1 i hi with h|h;exact HAF.o (e▸h);have:=LZ.o.size;have:w2.heap.size≤i:=Ml LZ.o.size h;omega });clear hD1 hk1 hf1))
  have HLD:=Hz (show LD w3 F1 (fun i=>i=a) g a P.1 ⟨p,Rc.none,1⟩ from⟨HD3.o,HM3.o,HNA.o,by rw [HP.o,T9 (by rw [←HP.o,←HX.o])];exact Nat.zero_le _,⟨HF.o.1,by rw [HP.o,U3];exact HF.o.2.1⟩,Mr 1,⟨by show (0:Int)≤0;omega,by show (0:Int)≤4294967295;omega⟩⟩)
  have HSA:=Hz (save_at HLD.o Rc.none Yv)
  rw [HSV.o] at HSA
  go_wp2_with (go_at_call 46;refine HSA.o.mono ?_;rintro e w4 ⟨rfl,F2,J2,hD4,hM4,hdj,hk4,hf4,hj4⟩;have HD4:=Hz hD4;have HM4:=Hz hM4;have HDJ:=Hz hdj;have KK4:=Hz hk4;have FF4:=Hz hf4;clear hD4 hM4 hdj hk4 hf4 hj4)
  go_ret2
  rw [HLF.o]
  have ha:=HA.o
  have hs0:=L2.o.size
  have hs1:=LZ.o.size
  refine⟨F2,HD4.o,?_,fun i hi=>?_,.inr ⟨HY.o.symm,rfl⟩⟩
  ·refine KK3.o.trans KK4.o fun i hi=>?_
   rcases hi with h|h
   ·exact FF3.o i h
   ·exact .inr (by omega)
  ·rcases FF4.o i hi with (h|h)|h
   ·exact FF3.o i h
   ·exact .inr (by omega)
   ·exact .inr (Ml (Ml hs0 hs1) (Ml hs3 h))
 ·rw [if_neg (show ¬(8:Int)=0 by omega)] at HLF
  go_wp2_with fail
  go_region_held3 (fun w'=>w'.cell? ⟨a,8,none⟩=some (.int .i64 1))
   (first
    | go_keep
    | exact HK3.o)
   ((go_at_call 95;refine (HW.o _ LZ.o _ HRZ.o HAZ.o).mono ?_;rintro e w3 ⟨rfl,F1,hD1,hk1,hf1⟩;have HM3:=Hz ((HM2.o.below LZ.o).keep hk1 fun i hi hF=>HAF.o ((show i=a from hi)▸hF));have HK3:=Hz (show w3.cell? ⟨a,8,none⟩=some (.int .i64 1) from HM3.o.blk.cell rfl);have HD3:=Hz hD1;have KK3:=Hz ((Keep.of_below (L2.o.trans (LZ.o.mono L2.o.size))).trans hk1 fun i hi=>.inl hi);have FF3:=Hz (show ∀i,F1 i→F i∨w.heap.size≤i from fun i hi=>(hf1 i hi).imp id fun h=>Ml (Ml L2.o.size LZ.o.size) h);have hs3:=hk1.size;have HNA:=Hz (show ∀i,F1 i→i≠a from fun i hi e=>by { rcases hf1 i hi with h|h;exact HAF.o (e▸h);have:=LZ.o.size;have:w2.heap.size≤i:=Ml LZ.o.size h;omega });clear hD1 hk1 hf1))
  go_wp2
  go_ret2
  rw [HLF.o]
  exact⟨F1,HD3.o,KK3.o,FF3.o,.inr ⟨rfl,rfl⟩⟩
end CmtN
namespace StoW
open DskA RecM BitM StgM StgP StgQ CmtM StoM ImgT StoV
abbrev Ks:=St×(Nat→Pt)×Int
def ksp (P:Pt):Nat:=if P.l.r.c=0 then 1 else 0
section
variable (n:Nat) (T:Int) (chk:Nat→Ig→Int→Int) (s:St) (P:Nat→Pt)
def kfr (p:Int):Int:=if p<0∨(n:Int)≤p then 3 else if (P p.toNat).l.r.a≠(P p.toNat).l.r.c then 18 else 0
def kslot (p:Nat) (c:Sa):Ks:=((sA s ((P p).t (ksp (P p))) c).1,upd P p { P p with t:=upd (P p).t (ksp (P p)) (sA s ((P p).t (ksp (P p))) c).2.1 },(sA s ((P p).t (ksp (P p))) c).2.2)
def ksave (p:Nat) (r:Rc):Ks:=((lS s (P p).l r).1,upd P p { P p with l:=(lS s (P p).l r).2.1 },(lS s (P p).l r).2.2)
def kbg (p ses:Int):Int:=if kfr n P p≠0 then kfr n P p else if ((P p.toNat).t (ksp (P p.toNat))).has=false then 16 else if ((P p.toNat).t (ksp (P p.toNat))).g.s≠ses then 17 else 0
def kgot (p:Nat):List Nat×Int:=pY s ((P p).t (ksp (P p)))
def kruns (p:Nat):Ig:=iG (pY s ((P p).t (sl (P p).l.r.a))).1
def ksealR (p:Nat):Rc:={ (P p).l.r with a:=(ksp (P p):Nat),l:=T,b:=0 }
def kseal (p ses:Int):Ks:=
 if kbg n P p ses≠0 then (s,P,kbg n P p ses)
 else if (kgot s P p.toNat).2≠0 then (s,P,(kgot s P p.toNat).2)
 else if (iG (kgot s P p.toNat).1).e≠0 then (s,P,(iG (kgot s P p.toNat).1).e)
 else if chk p.toNat (iG (kgot s P p.toNat).1) (kruns s P p.toNat).v≠0 then (s,P,chk p.toNat (iG (kgot s P p.toNat).1) (kruns s P p.toNat).v)
 else ksave s P p.toNat (ksealR T P p.toNat)
def kDo (a:Da):Ks:=
 if a.k=0 then (if kfr n P a.p≠0 then (s,P,kfr n P a.p) else kslot s P a.p.toNat ⟨0,a.n,a.z,0,[]⟩)
 else if a.k=1 then (if kfr n P a.p≠0 then (s,P,kfr n P a.p) else kslot s P a.p.toNat ⟨1,a.n,0,a.no,a.d⟩)
 else if a.k=2 then kseal n T chk s P a.p a.n
 else if a.k=3 then (if kbg n P a.p a.n≠0 then (s,P,kbg n P a.p a.n) else kslot s P a.p.toNat ⟨2,0,0,0,[]⟩)
 else if a.k=4 then (if a.p<0∨(n:Int)≤a.p then (s,P,3) else if (P a.p.toNat).l.r.a=(P a.p.toNat).l.r.c then (s,P,0) else ksave s P a.p.toNat (bootR (P a.p.toNat).l.r))
 else (if a.p<0∨(n:Int)≤a.p then (s,P,3) else if (P a.p.toNat).l.r.a=(P a.p.toNat).l.r.c then (s,P,16) else ksave s P a.p.toNat (confR (P a.p.toNat).l.r))
end
section
variable {n:Nat} {T:Int} {chk:Nat→Ig→Int→Int} {s:St} {P:Nat→Pt} {D:Dc} {p:Nat}
theorem Xv {o:Ow} {Q:Pt} (h:PtOk p Q o):ksp Q=spr o:=by
 unfold ksp spr
 rw [h.lr]
theorem kfr_eq (h:∀p,p<n→PtOk p (P p) (D.O p)) (q:Int):kfr n P q=dfr n D q:=by
 unfold kfr dfr
 by_cases h1:q<0∨(n:Int)≤q
 ·rw [if_pos h1,if_pos h1]
 ·rw [if_neg h1,if_neg h1,(h q.toNat (by omega)).lr]
theorem kbg_eq (h:∀p,p<n→PtOk p (P p) (D.O p)) (q ses:Int):kbg n P q ses=dbg n D q ses:=by
 unfold kbg dbg
 rw [kfr_eq h]
 by_cases h1:dfr n D q≠0
 ·rw [if_pos h1,if_pos h1]
 ·obtain⟨p,rfl,hp,_⟩:=dfr_0 (Mc_ h1)
  have hk:=h p hp
  rw [if_neg h1,if_neg h1,show ((p:Int)).toNat=p from by omega,Xv hk,hk.t _ (spr_le _)]
  rfl
def Out (n:Nat) (P:Nat→Pt) (O O2:Nat→Ow) (e:Int) (r:Ks):Prop:=
 (r.2.2=e∧r.2.2≠8∧SU r.1 n r.2.1 O2)∨(r.2.2=8∧e=0∧r.2.1=P∧SD r.1 n P O O2)
theorem V6 (h:SU s n P D.O) {e:Int} (he:e≠8):Out n P D.O D.O e (s,P,e):=.inl ⟨rfl,he,h⟩
theorem qwn (h:SU s n P D.O) (hp:p<n) (c:Sa) (hb:byt c.d):Out n P D.O (dslot D p c).1.O (dslot D p c).2 (kslot s P p c):=by
 have hk:=Xv (h.pt p hp)
 unfold kslot
 rw [hk]
 rcases slot_up h hp (spr_le _) rfl c hb with h1|⟨h1,h2,h3,h4⟩
 ·exact .inl h1
 ·refine .inr ⟨h1,h2,?_,h4⟩
  show upd P p { P p with t:=upd (P p).t (spr (D.O p)) (sA s ((P p).t (spr (D.O p))) c).2.1 }=P
  rw [h3,Vz,Vz]
theorem Gl (h:SU s n P D.O) (hp:p<n) (r:Rc):Out n P D.O (dsave D p r).1.O (dsave D p r).2 (ksave s P p r):=by
 unfold ksave
 rcases log_up h hp r with h1|⟨h1,h2,h3,h4⟩
 ·exact .inl h1
 ·refine .inr ⟨h1,h2,?_,h4⟩
  show upd P p { P p with l:=(lS s (P p).l r).2.1 }=P
  rw [h3,Vz]
theorem rY_8 (x:Rf):(rY x).2≠8:=by
 unfold rY
 repeat' split
 ·show (16:Int)≠8;omega
 ·show (11:Int)≠8;omega
 ·show (0:Int)≠8;omega
theorem iG_8 (ys:List Nat):(iG ys).e≠8:=by
 unfold iG
 have h:=rdI_e ((ys.take (ys.length-36)).drop 2)
 repeat' split
 ·show (1:Int)≠8;omega
 ·show (10:Int)≠8;omega
 ·show (2:Int)≠8;omega
 ·show (rdI ((ys.take (ys.length-36)).drop 2)).e≠8;omega
 ·omega
 ·show (3:Int)≠8;omega
theorem dfr_8 (q:Int):dfr n D q≠8:=by
 unfold dfr
 repeat' split
 all_goals omega
theorem dbg_8 (q ses:Int):dbg n D q ses≠8:=by
 unfold dbg
 repeat' split
 ·exact dfr_8 q
 all_goals omega
theorem qwo (hc8:∀p i v,chk p i v≠8) (h:SU s n P D.O) (hD:DI n chk D) (q ses:Int):Out n P D.O (dseal n T chk D q ses).1.O (dseal n T chk D q ses).2 (kseal n T chk s P q ses):=by
 unfold kseal dseal
 rw [kbg_eq h.pt]
 by_cases h1:dbg n D q ses≠0
 ·rw [if_pos h1,if_pos h1];exact V6 h (dbg_8 _ _)
 rw [if_neg h1,if_neg h1]
 obtain⟨p,rfl,hp,ha⟩:=dfr_0 (dbg_0 (Mc_ h1))
 rw [show ((p:Int)).toNat=p from by omega]
 have hk:=h.pt p hp
 have hg:kgot s P p=got D p:=by
  unfold kgot got
  rw [Xv hk]
  exact Ht (h.inv hp (spr_le _))
 have hr:kruns s P p=D.I p (sl (D.O p).r.a):=by
  unfold kruns
  have har:=(h.ok p hp).right.1.2.2.1
  rw [hk.lr,Ht (h.inv hp (k:=sl (D.O p).r.a) (by unfold sl;omega))]
  exact (hD p hp).1.is
 have hsr:ksealR T P p=sealR T D p:=by unfold ksealR sealR;rw [Xv hk,hk.lr]
 rw [hg,hr,hsr]
 by_cases h2:(got D p).2≠0
 ·rw [if_pos h2,if_pos h2];exact V6 h (rY_8 _)
 rw [if_neg h2,if_neg h2]
 by_cases h3:(iG (got D p).1).e≠0
 ·rw [if_pos h3,if_pos h3];exact V6 h (iG_8 _)
 rw [if_neg h3,if_neg h3]
 by_cases h4:chk p (iG (got D p).1) (D.I p (sl (D.O p).r.a)).v≠0
 ·rw [if_pos h4,if_pos h4];exact V6 h (hc8 _ _ _)
 rw [if_neg h4,if_neg h4]
 have ho:=Gl h hp (sealR T D p)
 by_cases h5:(nx (D.O p).r (sealR T D p)).2=0
 ·rw [if_pos h5]
  have e:(dsave D p (sealR T D p)).2=0:=h5
  rw [e] at ho
  exact ho
 ·rw [if_neg h5]
  have e1:(dsave D p (sealR T D p)).1.O=D.O:=by
   rcases Uq (D.O p).r (sealR T D p) with⟨e0,_⟩|⟨_,e1⟩
   ·exact absurd e0 h5
   ·show upd D.O p { D.O p with r:=(nx (D.O p).r (sealR T D p)).1 }=D.O
    rw [e1]
    exact Vz _ _
  rw [e1] at ho
  exact ho
theorem out_do (hc8:∀p i v,chk p i v≠8) (h:SU s n P D.O) (hD:DI n chk D) (a:Da) (hb:byt a.d):Out n P D.O (dDo n T chk D a).1.O (dDo n T chk D a).2 (kDo n T chk s P a):=by
 have hnil:byt ([]:List Nat):=fun c hc=>by cases hc
 have hs:∀c:Sa,byt c.d→dfr n D a.p=0→Out n P D.O (dslot D a.p.toNat c).1.O (dslot D a.p.toNat c).2 (kslot s P a.p.toNat c):=fun c hc h0=>by
  obtain⟨p,e,hp,ha⟩:=dfr_0 h0
  rw [e,show ((p:Int)).toNat=p from by omega]
  exact qwn h hp c hc
 unfold kDo dDo
 rw [kfr_eq h.pt,kbg_eq h.pt]
 by_cases k0:a.k=0
 ·rw [if_pos k0,if_pos k0]
  by_cases h0:dfr n D a.p≠0
  ·rw [if_pos h0,if_pos h0];exact V6 h (dfr_8 _)
  ·rw [if_neg h0,if_neg h0];exact hs _ hnil (Mc_ h0)
 rw [if_neg k0,if_neg k0]
 by_cases k1:a.k=1
 ·rw [if_pos k1,if_pos k1]
  by_cases h0:dfr n D a.p≠0
  ·rw [if_pos h0,if_pos h0];exact V6 h (dfr_8 _)
  ·rw [if_neg h0,if_neg h0];exact hs _ hb (Mc_ h0)
 rw [if_neg k1,if_neg k1]
 by_cases k2:a.k=2
 ·rw [if_pos k2,if_pos k2];exact qwo hc8 h hD _ _
 rw [if_neg k2,if_neg k2]
 by_cases k3:a.k=3
 ·rw [if_pos k3,if_pos k3]
  by_cases h0:dbg n D a.p a.n≠0
  ·rw [if_pos h0,if_pos h0];exact V6 h (dbg_8 _ _)
  ·rw [if_neg h0,if_neg h0];exact hs _ hnil (dbg_0 (Mc_ h0))
 rw [if_neg k3,if_neg k3]
 by_cases k4:a.k=4
 ·rw [if_pos k4,if_pos k4]
  by_cases h0:a.p<0∨(n:Int)≤a.p
  ·rw [if_pos h0,if_pos h0];exact V6 h (by omega)
  rw [if_neg h0,if_neg h0,(h.pt a.p.toNat (by omega)).lr]
  by_cases h9:(D.O a.p.toNat).r.a=(D.O a.p.toNat).r.c
  ·rw [if_pos h9,if_pos h9];exact V6 h (by omega)
  ·rw [if_neg h9,if_neg h9];exact Gl h (by omega) _
 ·rw [if_neg k4,if_neg k4]
  by_cases h0:a.p<0∨(n:Int)≤a.p
  ·rw [if_pos h0,if_pos h0];exact V6 h (by omega)
  rw [if_neg h0,if_neg h0,(h.pt a.p.toNat (by omega)).lr]
  by_cases h9:(D.O a.p.toNat).r.a=(D.O a.p.toNat).r.c
  ·rw [if_pos h9,if_pos h9];exact V6 h (by omega)
  ·rw [if_neg h9,if_neg h9];exact Gl h (by omega) _
end
end StoW
namespace StoN
open Mem DskA StgM CmtM StoM
open RecA (rval rcells rok sval scells sok)
open StgN (Sm DS Sgo)
open CmtN (Lm LS Lgo)
open TabA (Tri Tris Ta)
inductive Zl
 | out
 | head
 | list
 | tab
 | log (p:Nat)
 | slot (p k:Nat)
structure Lo where
 z:Nat
 pb:Nat
 pc:Nat
 PC:List Value
 la:Nat→Nat
 sa:Nat→Nat→Nat
def pcs (g la s0 s1:Nat):List Value:=[.pointer (some ⟨la,0,none⟩),.pointer (some ⟨s0,0,none⟩),.pointer (some ⟨s1,0,none⟩),.pointer (some ⟨g,0,none⟩)]
@[reducible] def pval (g la s0 s1:Nat):Value:=.agg #[.pointer (some ⟨la,0,none⟩),.pointer (some ⟨s0,0,none⟩),.pointer (some ⟨s1,0,none⟩),.pointer (some ⟨g,0,none⟩)]
@[reducible] def pzero:Value:=.agg #[.pointer none,.pointer none,.pointer none,.pointer none]
def isZ (ζ:Nat→Zl) (i:Nat):Prop:=∃p,ζ i=.log p∨∃k,ζ i=.slot p k
theorem Tris.keep {w w':World} {G:Nat→Prop} {A:Option Addr} {n c:Nat} {R:List Tri} (h:Tris w A n c R) (k:Keep G w w') (hd:0<n→∀q o,A=some ⟨q,o,none⟩→¬G q):Tris w' A n c R:=
 ⟨h.1,h.2.1,h.2.2.1,h.2.2.2.1,fun hp=>by
  obtain⟨b,o,hA,hbl,hc⟩:=h.2.2.2.2 hp
  exact⟨b,o,hA,Mw hbl k.size,fun i r hr j u hu=>(World.cell?_of_block (k.block b hbl (hd hp b o hA))).trans (hc i r hr j u hu)⟩⟩
structure Zm (w:World) (ζ:Nat→Zl) (g:Nat) (t:Ta) (n:Nat) (P:Nat→Pt) (Z:Lo):Prop where
 head:Blk w Z.z 96 (t.cells++[.slice (some ⟨Z.pb,0,none⟩) n Z.pc])
 tok:t.ok w
 tb:(0<t.n1→∀q o,t.A1=some ⟨q,o,none⟩→ζ q=.tab)∧(0<t.n2→∀q o,t.A2=some ⟨q,o,none⟩→ζ q=.tab)∧(0<t.n3→∀q o,t.A3=some ⟨q,o,none⟩→ζ q=.tab)
 n4:n=t.n1∧n≤4∧n≤Z.pc∧Z.pc≤9223372036854775807
 list:Blk w Z.pb 82 Z.PC
 own:∀p,p<n→p*4+4≤Z.PC.length∧(Z.PC.drop (p*4)).take 4=pcs g (Z.la p) (Z.sa p 0) (Z.sa p 1)
 log:∀p,p<n→Lm w (fun i=>i=Z.la p) (Z.la p) g (P p).l
 slot:∀p,p<n→∀k,k≤1→Sm w (fun i=>i=Z.sa p k) (Z.sa p k) g ((P p).t k)
 rz:ζ Z.z=.head
 rb:ζ Z.pb=.list
 rl:∀p,p<n→ζ (Z.la p)=.log p
 rs:∀p,p<n→∀k,k≤1→ζ (Z.sa p k)=.slot p k
 lt:∀i,ζ i≠.out→i<w.heap.size
section
variable {w w':World} {ζ:Nat→Zl} {G:Nat→Prop} {g n:Nat} {t:Ta} {P:Nat→Pt} {Z:Lo}
theorem Zm.keep1 (h:Zm w ζ g t n P Z) (k:Keep G w w') (hd:∀i,ζ i=.head∨ζ i=.list∨ζ i=.tab→¬G i) {P':Nat→Pt} (hl:∀p,p<n→Lm w' (fun i=>i=Z.la p) (Z.la p) g (P' p).l) (hs:∀p,p<n→∀k,k≤1→Sm w' (fun i=>i=Z.sa p k) (Z.sa p k) g ((P' p).t k)):Zm w' ζ g t n P' Z:=
 ⟨k.blk h.head (hd _ (.inl h.rz)),⟨Tris.keep h.tok.P k fun h0 q o e=>hd _ (.inr (.inr (h.tb.1 h0 q o e))),Tris.keep h.tok.W k fun h0 q o e=>hd _ (.inr (.inr (h.tb.2.1 h0 q o e))),Tris.keep h.tok.C k fun h0 q o e=>hd _ (.inr (.inr (h.tb.2.2 h0 q o e))),h.tok.f0,h.tok.f1,h.tok.t0,h.tok.t1⟩,h.tb,h.n4,
  k.blk h.list (hd _ (.inr (.inl h.rb))),h.own,hl,hs,h.rz,h.rb,h.rl,h.rs,fun i hi=>Mw (h.lt i hi) k.size⟩
theorem Zm.keep (h:Zm w ζ g t n P Z) (k:Keep G w w') (hd:∀i,ζ i≠.out→¬G i):Zm w' ζ g t n P Z:=
 h.keep1 k (fun i hi=>hd i fun e=>by rw [e] at hi;rcases hi with hi|hi|hi <;> cases hi)
  (fun p hp=>(h.log p hp).keep k fun i hi=>hd i fun e=>by rw [show i=Z.la p from hi,h.rl p hp] at e;cases e)
  (fun p hp j hj=>(h.slot p hp j hj).keep k fun i hi=>hd i fun e=>by rw [show i=Z.sa p j from hi,h.rs p hp j hj] at e;cases e)
theorem Zm.below (h:Zm w ζ g t n P Z) (hb:Bw w w'):Zm w' ζ g t n P Z:=h.keep (Keep.of_below (F:=fun _=>False) hb) fun _ _ h=>h
theorem Zm.tcells (h:Zm w ζ g t n P Z):w.cell? ⟨Z.z,0,none⟩=some (.int .i64 t.fr)∧w.cell? ⟨Z.z,1,none⟩=some (.slice t.A1 t.n1 t.c1)∧w.cell? ⟨Z.z,2,none⟩=some (.slice t.A2 t.n2 t.c2)∧w.cell? ⟨Z.z,3,none⟩=some (.slice t.A3 t.n3 t.c3)∧w.cell? ⟨Z.z,4,none⟩=some (.int .i64 t.tr)∧w.cell? ⟨Z.z,5,none⟩=some (.slice (some ⟨Z.pb,0,none⟩) n Z.pc):=
 ⟨h.head.cell rfl,h.head.cell rfl,h.head.cell rfl,h.head.cell rfl,h.head.cell rfl,h.head.cell rfl⟩
end
structure DZ (w:World) (F:Nat→Prop) (ζ:Nat→Zl) (g:Nat) (s:St) (t:Ta) (n:Nat) (P:Nat→Pt) (Z:Lo):Prop where
 dk:Dk w F g s
 zm:Zm w ζ g t n P Z
 dis:∀i,F i→ζ i=.out
 most:s.L.length≤1000000
 len:10*n≤s.S.length
 at_:∀p,p<n→(P p).l.p=p∧∀k,k≤1→((P p).t k).p=p∧((P p).t k).k=k
def Zgo (F:Nat→Prop) (ζ:Nat→Zl) (g:Nat) (t:Ta) (n:Nat) (Z:Lo) (w:World) (s':St) (P':Nat→Pt) (w':World):Prop:=
 ∃F',Dk w' F' g s'∧Zm w' ζ g t n P' Z∧(∀i,F' i→ζ i=.out)∧Keep (fun i=>F i∨isZ ζ i) w w'∧(∀i,F' i→F i∨w.heap.size≤i)
section
variable {w w':World} {F:Nat→Prop} {ζ:Nat→Zl} {g n p k:Nat} {s s':St} {t:Ta} {P:Nat→Pt} {Z:Lo}
theorem DZ.below (h:DZ w F ζ g s t n P Z) (hb:Bw w w'):DZ w' F ζ g s t n P Z:=⟨h.dk.below hb,h.zm.below hb,h.dis,h.most,h.len,h.at_⟩
theorem DZ.ds (h:DZ w F ζ g s t n P Z) (hp:p<n) (hk:k≤1):DS w F (fun i=>i=Z.sa p k) g (Z.sa p k) s ((P p).t k):=by
 have ha:=(h.at_ p hp).2 k hk
 have hn:=h.zm.n4
 have hl:=h.len
 exact⟨h.dk,h.zm.slot p hp k hk,fun i hf hi=>(by have:=h.dis i hf;rw [show i=Z.sa p k from hi,h.zm.rs p hp k hk] at this;cases this),h.most,by rw [ha.1];omega,by rw [ha.2];exact hk,by unfold Slt.at_;rw [ha.1,ha.2];omega⟩
theorem DZ.ls (h:DZ w F ζ g s t n P Z) (hp:p<n) (hr:(P p).l.r.right∧(P p).l.r.p=(P p).l.p∧(P p).l.i≤1):LS w F (fun i=>i=Z.la p) g (Z.la p) s (P p).l:=by
 have ha:=(h.at_ p hp).1
 have hn:=h.zm.n4
 have hl:=h.len
 exact⟨h.dk,h.zm.log p hp,fun i hf hi=>(by have:=h.dis i hf;rw [show i=Z.la p from hi,h.zm.rl p hp] at this;cases this),h.most,⟨by rw [ha];omega,by rw [ha];omega⟩,hr⟩
theorem DZ.still (h:DZ w F ζ g s t n P Z) (hb:Bw w w'):Zgo F ζ g t n Z w s P w':=
 ⟨F,h.dk.below hb,h.zm.below hb,h.dis,Keep.of_below hb,fun _ hi=>.inl hi⟩
theorem Zgo.from {w1:World} {P':Nat→Pt} (hb:Bw w w1) (h:Zgo F ζ g t n Z w1 s' P' w'):Zgo F ζ g t n Z w s' P' w':=by
 obtain⟨F',h1,h2,h3,h4,h5⟩:=h
 exact⟨F',h1,h2,h3,(Keep.of_below (F:=fun i=>F i∨isZ ζ i) hb).trans h4 fun i hi=>.inl hi,fun i hi=>(h5 i hi).imp id fun h=>Ml hb.size h⟩
theorem DZ.sgo {v:Value} {e:Ending} {t':Slt} (h:DZ w F ζ g s t n P Z) (hp:p<n) (hk:k≤1) (hg:Sgo F (fun i=>i=Z.sa p k) g (Z.sa p k) w v s' t' e w') :
 e=.returned v∧Zgo F ζ g t n Z w s' (upd P p { P p with t:=upd (P p).t k t' }) w':=by
 obtain⟨he,F',J',h1,h2,h3,h4,h5,h6⟩:=hg
 have hz:=h.zm
 have hne:∀i,ζ i≠.out→(∀q j,ζ i=.slot q j→¬(q=p∧j=k))→¬(F i∨i=Z.sa p k):=fun i hi hs hh=>by
  rcases hh with hh|hh
  ·exact hi (h.dis i hh)
  ·rw [hh] at hs;exact hs p k (hz.rs p hp k hk) ⟨rfl,rfl⟩
 have hF:∀i,F' i→F i∨w.heap.size≤i:=fun i hi=>by
  rcases h5 i hi with (h7|h7)|h7
  ·exact .inl h7
  ·exact absurd ((h2.own i).2 h7) (h3 i hi)
  ·exact .inr h7
 refine⟨he,F',h1,?_,fun i hi=>?_,h4.mono fun i _ hi=>hi.imp id fun e=>⟨p,.inr ⟨k,by rw [e];exact hz.rs p hp k hk⟩⟩,hF⟩
 ·refine hz.keep1 h4 (fun i hi=>hne i (fun e=>by rw [e] at hi;rcases hi with hi|hi|hi <;> cases hi) fun q j e=>by rw [e] at hi;rcases hi with hi|hi|hi <;> cases hi) (fun q hq=>?_) (fun q hq j hj=>?_)
  ·have e:(upd P p { P p with t:=upd (P p).t k t' } q).l=(P q).l:=by
    by_cases e:q=p
    ·subst e;rw [Qw]
    ·rw [upd_ne _ _ e]
   rw [e]
   exact (hz.log q hq).keep h4 fun i hi=>hne i (by rw [show i=Z.la q from hi,hz.rl q hq];intro e;cases e) fun a b e=>by rw [show i=Z.la q from hi,hz.rl q hq] at e;cases e
  ·by_cases e:q=p∧j=k
   ·obtain⟨rfl,rfl⟩:=e
    rw [Qw]
    show Sm w' _ _ g (upd (P q).t j t' j)
    rw [Qw]
    exact⟨h2.blk,fun _=>Iff.rfl,h2.is,h2.ok⟩
   ·have e2:(upd P p { P p with t:=upd (P p).t k t' } q).t j=(P q).t j:=by
     by_cases e3:q=p
     ·subst e3
      rw [Qw]
      exact upd_ne _ _ fun e4=>e ⟨rfl,e4⟩
     ·rw [upd_ne _ _ e3]
    rw [e2]
    refine (hz.slot q hq j hj).keep h4 fun i hi=>hne i (by rw [show i=Z.sa q j from hi,hz.rs q hq j hj];intro e;cases e) fun a b e5=>?_
    rw [show i=Z.sa q j from hi,hz.rs q hq j hj] at e5
    injection e5 with e6 e7
    subst e6 e7
    exact e
 ·rcases hF i hi with h7|h7
  ·exact h.dis i h7
  ·exact Mc_ fun h8=>by have:=hz.lt i h8;omega
theorem DZ.lgo {v:Value} {e:Ending} {l':Lg} (h:DZ w F ζ g s t n P Z) (hp:p<n) (hg:Lgo F (fun i=>i=Z.la p) g (Z.la p) w v s' l' e w') :
 e=.returned v∧Zgo F ζ g t n Z w s' (upd P p { P p with l:=l' }) w':=by
 obtain⟨he,F',J',h1,h2,h3,h4,h5,h6⟩:=hg
 have hz:=h.zm
 have hne:∀i,ζ i≠.out→(∀q,ζ i=.log q→q≠p)→¬(F i∨i=Z.la p):=fun i hi hs hh=>by
  rcases hh with hh|hh
  ·exact hi (h.dis i hh)
  ·rw [hh] at hs;exact hs p (hz.rl p hp) rfl
 have hF:∀i,F' i→F i∨w.heap.size≤i:=fun i hi=>by
  rcases h5 i hi with (h7|h7)|h7
  ·exact .inl h7
  ·exact absurd ((h2.own i).2 h7) (h3 i hi)
  ·exact .inr h7
 refine⟨he,F',h1,?_,fun i hi=>?_,h4.mono fun i _ hi=>hi.imp id fun e=>⟨p,.inl (by rw [e];exact hz.rl p hp)⟩,hF⟩
 ·refine hz.keep1 h4 (fun i hi=>hne i (fun e=>by rw [e] at hi;rcases hi with hi|hi|hi <;> cases hi) fun q e=>by rw [e] at hi;rcases hi with hi|hi|hi <;> cases hi) (fun q hq=>?_) (fun q hq j hj=>?_)
  ·by_cases e:q=p
   ·subst e
    rw [Qw]
    exact⟨h2.blk,fun _=>Iff.rfl,h2.ok⟩
   ·rw [upd_ne _ _ e]
    refine (hz.log q hq).keep h4 fun i hi=>hne i (by rw [show i=Z.la q from hi,hz.rl q hq];intro e;cases e) fun a e5=>?_
    rw [show i=Z.la q from hi,hz.rl q hq] at e5
    injection e5 with e6
    subst e6
    exact e
  ·have e2:(upd P p { P p with l:=l' } q).t j=(P q).t j:=by
    by_cases e3:q=p
    ·subst e3;rw [Qw]
    ·rw [upd_ne _ _ e3]
   rw [e2]
   exact (hz.slot q hq j hj).keep h4 fun i hi=>hne i (by rw [show i=Z.sa q j from hi,hz.rs q hq j hj];intro e;cases e) fun a e=>by rw [show i=Z.sa q j from hi,hz.rs q hq j hj] at e;cases e
 ·rcases hF i hi with h7|h7
  ·exact h.dis i h7
  ·exact Mc_ fun h8=>by have:=hz.lt i h8;omega
end
end StoN
namespace ImgU
open Kit Byt Mem Beq ShaM ShaE ImgB ImgS ImgR ImgG ImgT
theorem has_no (b o n c:Nat) (B:Option Addr) (d:Nat) (ys:List Nat) (w:World) (hR:Rd w (some ⟨b,o,none⟩) n c (u8n ys)) (hx:by256 ys) (hP:Rd w B 2 d (u8n [76,73])) (ht:ys.take 2≠[76,73]) :
 Calls Tryz.prog 172 #[.slice (some ⟨b,o,none⟩) n c,.slice B 2 d] w fun e w'=>e=.returned (.bool false)∧w=w':=by
 have hn:ys.length=n:=Rd.nats hR
 have hc:=hR.le
 have hc2:=hR.cap
 by_cases h2:2≤n
 ·have hq:=Jh (some ⟨b,o,none⟩) B 2 2 c d (ys.take 2) [76,73] w (by have:=hR.take (k:=2) (by omega);simpa [u8n,List.map_take] using this) hP (fun u hu=>hx u (List.mem_of_mem_take hu)) (by intro u hu;simp at hu;omega)
  rw [decide_eq_false ht] at hq
  have HQ:=Hz hq
  clear hq hR hP ht hx
  have k0:(2:Int)≤(n:Int):=by omega
  have k1:(2:Int)≤(c:Int):=by omega
  have k2:2≤c:=by omega
  go_enter Tryz.func172,Tryz.ntmps172
  go_wp2_with (go_at_call 132;refine HQ.o.mono ?_;rintro e w' ⟨rfl,rfl⟩)
  go_ret
  exact⟨rfl,rfl⟩
 ·have k0 : ¬(2:Int)≤(n:Int):=by omega
  have k1:(n:Int)<2:=by omega
  clear hR hP ht hx hn hc hc2 h2
  go_enter Tryz.func172,Tryz.ntmps172
  go_wp2
  go_ret
  exact⟨rfl,rfl⟩
theorem cut_no (b o n c:Nat) (B:Option Addr) (d:Nat) (ys:List Nat) (w:World) (hR:Rd w (some ⟨b,o,none⟩) n c (u8n ys)) (hx:by256 ys) (hP:Rd w B 2 d (u8n [76,73])) (ht:ys.take 2≠[76,73]) :
 Calls Tryz.prog 133 #[.slice (some ⟨b,o,none⟩) n c,.slice B 2 d] w fun e w'=>e=.returned (.tuple #[.slice (some ⟨b,o,none⟩) n c,.bool false])∧w=w':=by
 have HH:=Hz (has_no b o n c B d ys w hR hx hP ht)
 clear hR hP ht hx
 go_enter Tryz.func133,Tryz.ntmps133
 go_wp2_with (go_at_call 172;refine HH.o.mono ?_;rintro e w' ⟨rfl,rfl⟩)
 go_ret2
 exact⟨rfl,rfl⟩
theorem get_left (A:Option Addr) (n c:Nat) (zs:List Nat) (w:World) (hT:Tab w) (hR:Rd w A n c (u8n (closed zs))) (hz:by256 zs) (h2:2≤zs.length) (hm:zs.length≤1000) (ht:zs.take 2=[76,73])
 {v1 v2 v3 v4 v5 v6 v7 e1 e2 e3 e4 e5 e6 e7 e8:Int} {x1 x2 x3 x4 x5 x6 x7 x8 cs:List Int}
 (r1:TabR.rdN 1 (nl (zs.drop 2)) 0=(v1,x1,e1)) (r2:TabR.rdN 2 x1 e1=(v2,x2,e2)) (r3:TabR.rdN 2 x2 e2=(v3,x3,e3)) (r4:TabR.rdN 1 x3 e3=(v4,x4,e4)) (r5:TabR.rdN 1 x4 e4=(v5,x5,e5)) (r6:TabR.rdN 1 x5 e5=(v6,x6,e6)) (r7:TabR.rdN 1 x6 e6=(v7,x7,e7)) (r8:TxtR.rtx x7 e7=(cs,x8,e8))
 (hen:TabR.endN x8 e8=2):Calls Tryz.prog 90 #[.slice A n c] w (Gt w zeroV 2):=by
 have hn:(closed zs).length=n:=Rd.nats hR
 rw [Q2] at hn
 have hc:=hR.le
 have hc2:=hR.cap
 obtain⟨b,o,rfl,_,_⟩:=hR.2.2.2 (by omega)
 have HB0:=Hz (own0 w)
 have HL0:=Hz ((Mb w.heap.size w).alloc (Mr _) (.cells #[.int .i64 0,.int .i64 0,.int .i64 0,.int .i64 0,.int .i64 0,.int .i64 0,.int .i64 0,.slice none 0 0] 40))
 have HN:=Hz hn
 have htk:(closed zs).take (n-36)=zs:=by
  unfold closed
  rw [List.append_assoc,List.take_left' (by omega)]
 have HZ:=Hz (show Rd w (some ⟨b,o,none⟩) (n-36) c (u8n zs) from by have:=hR.take (k:=n-36) (by omega);rw [show (u8n (closed zs)).take (n-36)=u8n ((closed zs).take (n-36)) from by simp [u8n]] at this;rwa [htk] at this)
 have HS:=Hz (fun w' (hb:Bw w w')=>sealed_any (some ⟨b,o,none⟩) (n-36) c zs w' (hT.below hb hT.1) (HZ.o.below hb) hz (by omega))
 have HQ:=Hz (fun w' (hb:Bw w w') (B:Option Addr) (m d:Nat) (hB:Rd w' B m d (u8n (closed zs)))=>Jh (some ⟨b,o,none⟩) B n m c d (closed zs) (closed zs) w' (hR.below hb) hB (closed_lt hz) (closed_lt hz))
 rw [decide_eq_true rfl] at HQ
 have HCY:=Hz (fun w' (hb:Bw w w') (B:Option Addr) (d:Nat) (hP:Rd w' B 2 d (u8n [76,73]))=>Gq b o (n-36) c B d zs w' (HZ.o.below hb) hz hP h2 ht)
 have hd8:∀u ∈ nl (zs.drop 2),0≤u∧u≤255:=by
  intro u hu
  simp only [nl,List.mem_map] at hu
  obtain⟨q,hq,rfl⟩:=hu
  have:=hz q (List.mem_of_mem_drop hq)
  omega
 have HRA:=Hz (fun w' (A:Option Addr) (m k:Nat) (h:Rd w' A m k (u8n (zs.drop 2)))=>(hen▸Vn A m k (nl (zs.drop 2)) w' (by rw [←J7];exact h) hd8 (by have:=Rd.nats h;simp at this;omega) r1 r2 r3 r4 r5 r6 r7 r8))
 have h36 : ¬(n:Int)<36:=by omega
 have g0:(0:Int)≤(n:Int)-36:=by omega
 have g1:(n:Int)-36≤(c:Int):=by omega
 have g2:((n:Int)-36).toNat=n-36:=by omega
 have kc:=fun (w:World) (C:Array Value) (n c:Nat)=>Lib.run_convert_bytes_const (P:=Tryz.prog) w 38 5 C n c Tryz.underlying38 Tryz.underlying5
 clear hT hR hn htk ht hz r1 r2 r3 r4 r5 r6 r7 r8 hd8
 go_enter Tryz.func90,Tryz.ntmps90
 go_wp2_with fail
 refine (HS.o _ HL0.o).mono ?_
 rintro e w2 ⟨B,m,d,rfl,ho2,hb2⟩
 have HL2:=Hz (HL0.o.trans (hb2.mono (by simp)))
 have HB2:=Hz (HB0.o.below hb2)
 have HO2:=Hz (Rd.own ho2)
 clear ho2 hb2 HL0 HB0
 go_wp2_with fail
 refine (HQ.o _ HL2.o B m d HO2.o).mono ?_
 rintro e w3 ⟨rfl,rfl⟩
 go_wp2_with fail
 have HL3:=Hz (HL2.o.alloc HL2.o.size (.cells #[.int .u8 76,.int .u8 73] 5 (2,3)))
 have HB3:=Hz (HB2.o.alloc (.cells #[.int .u8 76,.int .u8 73] 5 (2,3)))
 refine (HCY.o _ HL3.o (some ⟨w2.heap.size,0,none⟩) 2 (CrcD.Rd.cells w2 [76,73] 5 (m:=(2,3)) rfl (by omega))).mono ?_
 rintro e w4 ⟨A4,m4,k4,rfl,hr4,rfl⟩
 have HR4:=Hz hr4
 clear hr4
 go_wp2_with fail
 refine (HRA.o _ A4 m4 k4 HR4.o).mono ?_
 rintro e w5 ⟨B5,m5,d5,rfl,hr5,hb5,hq5⟩
 have HL5:=Hz (HL3.o.trans (hb5.mono HL3.o.size))
 have HB5:=Hz (HB3.o.below hb5)
 have HR5:=Hz hr5
 have HN5:=Hz (show 0<m5→∀b o,B5=some ⟨b,o,none⟩→¬b=w.heap.size from fun h b o hA hb=>by have:=hq5 h b o hA;have h3:=HB3.o.lt;omega)
 clear hr5 hb5 hq5 HR4 HL3 HB3 HO2
 have HL6:=Hz (HL5.o.alloc HL5.o.size (.cells #[.int .i64 v1,.int .i64 v2,.int .i64 v3,.int .i64 v4,.int .i64 v5,.int .i64 v6,.int .i64 v7,.slice B5 m5 d5] 40))
 have HB6:=Hz (HB5.o.alloc (.cells #[.int .i64 v1,.int .i64 v2,.int .i64 v3,.int .i64 v4,.int .i64 v5,.int .i64 v6,.int .i64 v7,.slice B5 m5 d5] 40))
 go_wp2_with (refine Qq rfl 40 (.tmp 2) (.tmp 41) rfl w.heap.size rfl zeroI rfl HB6.o rfl Q8 J6 ?_;intro w11 hB11 ho11)
 have k0:=hB11.o.cell (i:=0) rfl
 have k1:=hB11.o.cell (i:=1) rfl
 have k2:=hB11.o.cell (i:=2) rfl
 have k3:=hB11.o.cell (i:=3) rfl
 have k4:=hB11.o.cell (i:=4) rfl
 have k5:=hB11.o.cell (i:=5) rfl
 have k6:=hB11.o.cell (i:=6) rfl
 have k7:=hB11.o.cell (i:=7) rfl
 refine bodyPost_ret (v:=.tuple #[.agg #[.int .i64 0,.int .i64 0,.int .i64 0,.int .i64 0,.int .i64 0,.int .i64 0,.int .i64 0,.slice none 0 0],.int .i64 2]) (by simp [results,Tryz.results90,go_sem,k0,k1,k2,k3,k4,k5,k6,k7]) rfl ?_
 exact⟨rfl,ho11.o.below HL6.o (Mr _) HL6.o.size⟩
theorem get_form (A:Option Addr) (n c:Nat) (zs:List Nat) (w:World) (hT:Tab w) (hR:Rd w A n c (u8n (closed zs))) (hz:by256 zs) (hm:zs.length≤1000) (ht:zs.take 2≠[76,73]) :
 Calls Tryz.prog 90 #[.slice A n c] w (Gt w zeroV 2):=by
 have hn:(closed zs).length=n:=Rd.nats hR
 rw [Q2] at hn
 have hc:=hR.le
 have hc2:=hR.cap
 obtain⟨b,o,rfl,_,_⟩:=hR.2.2.2 (by omega)
 have HB0:=Hz (own0 w)
 have HL0:=Hz ((Mb w.heap.size w).alloc (Mr _) (.cells #[.int .i64 0,.int .i64 0,.int .i64 0,.int .i64 0,.int .i64 0,.int .i64 0,.int .i64 0,.slice none 0 0] 40))
 have HN:=Hz hn
 have htk:(closed zs).take (n-36)=zs:=by
  unfold closed
  rw [List.append_assoc,List.take_left' (by omega)]
 have HZ:=Hz (show Rd w (some ⟨b,o,none⟩) (n-36) c (u8n zs) from by have:=hR.take (k:=n-36) (by omega);rw [show (u8n (closed zs)).take (n-36)=u8n ((closed zs).take (n-36)) from by simp [u8n]] at this;rwa [htk] at this)
 have HS:=Hz (fun w' (hb:Bw w w')=>sealed_any (some ⟨b,o,none⟩) (n-36) c zs w' (hT.below hb hT.1) (HZ.o.below hb) hz (by omega))
 have HQ:=Hz (fun w' (hb:Bw w w') (B:Option Addr) (m d:Nat) (hB:Rd w' B m d (u8n (closed zs)))=>Jh (some ⟨b,o,none⟩) B n m c d (closed zs) (closed zs) w' (hR.below hb) hB (closed_lt hz) (closed_lt hz))
 rw [decide_eq_true rfl] at HQ
 have HCY:=Hz (fun w' (hb:Bw w w') (B:Option Addr) (d:Nat) (hP:Rd w' B 2 d (u8n [76,73]))=>cut_no b o (n-36) c B d zs w' (HZ.o.below hb) hz hP ht)
 have h36 : ¬(n:Int)<36:=by omega
 have g0:(0:Int)≤(n:Int)-36:=by omega
 have g1:(n:Int)-36≤(c:Int):=by omega
 have g2:((n:Int)-36).toNat=n-36:=by omega
 have kc:=fun (w:World) (C:Array Value) (n c:Nat)=>Lib.run_convert_bytes_const (P:=Tryz.prog) w 38 5 C n c Tryz.underlying38 Tryz.underlying5
 clear hT hR hn htk ht hz
 go_enter Tryz.func90,Tryz.ntmps90
 go_wp2_with fail
 refine (HS.o _ HL0.o).mono ?_
 rintro e w2 ⟨B,m,d,rfl,ho2,hb2⟩
 have HL2:=Hz (HL0.o.trans (hb2.mono (by simp)))
 have HB2:=Hz (HB0.o.below hb2)
 have HO2:=Hz (Rd.own ho2)
 clear ho2 hb2 HL0 HB0
 go_wp2_with fail
 refine (HQ.o _ HL2.o B m d HO2.o).mono ?_
 rintro e w3 ⟨rfl,rfl⟩
 go_wp2_with fail
 have HL3:=Hz (HL2.o.alloc HL2.o.size (.cells #[.int .u8 76,.int .u8 73] 5 (2,3)))
 have HB3:=Hz (HB2.o.alloc (.cells #[.int .u8 76,.int .u8 73] 5 (2,3)))
 refine (HCY.o _ HL3.o (some ⟨w2.heap.size,0,none⟩) 2 (CrcD.Rd.cells w2 [76,73] 5 (m:=(2,3)) rfl (by omega))).mono ?_
 rintro e w4 ⟨rfl,rfl⟩
 clear HB2 HO2
 go_wp2_with (refine Qq rfl 40 (.tmp 2) (.tmp 33) rfl w.heap.size rfl zeroI rfl HB3.o rfl Q8 J6 ?_;intro w11 hB11 ho11)
 have k0:=hB11.o.cell (i:=0) rfl
 have k1:=hB11.o.cell (i:=1) rfl
 have k2:=hB11.o.cell (i:=2) rfl
 have k3:=hB11.o.cell (i:=3) rfl
 have k4:=hB11.o.cell (i:=4) rfl
 have k5:=hB11.o.cell (i:=5) rfl
 have k6:=hB11.o.cell (i:=6) rfl
 have k7:=hB11.o.cell (i:=7) rfl
 refine bodyPost_ret (v:=.tuple #[.agg #[.int .i64 0,.int .i64 0,.int .i64 0,.int .i64 0,.int .i64 0,.int .i64 0,.int .i64 0,.slice none 0 0],.int .i64 2]) (by simp [results,Tryz.results90,go_sem,k0,k1,k2,k3,k4,k5,k6,k7]) rfl ?_
 exact⟨rfl,ho11.o.below HL3.o (Mr _) HL3.o.size⟩
theorem get_range (A:Option Addr) (n c:Nat) (zs:List Nat) (w:World) (hT:Tab w) (hR:Rd w A n c (u8n (closed zs))) (hz:by256 zs) (h2:2≤zs.length) (hm:zs.length≤1000) (ht:zs.take 2=[76,73])
 {v1 v2 v3 v4 v5 v6 v7 e1 e2 e3 e4 e5 e6 e7 e8:Int} {x1 x2 x3 x4 x5 x6 x7 x8 cs:List Int}
 (r1:TabR.rdN 1 (nl (zs.drop 2)) 0=(v1,x1,e1)) (r2:TabR.rdN 2 x1 e1=(v2,x2,e2)) (r3:TabR.rdN 2 x2 e2=(v3,x3,e3)) (r4:TabR.rdN 1 x3 e3=(v4,x4,e4)) (r5:TabR.rdN 1 x4 e4=(v5,x5,e5)) (r6:TabR.rdN 1 x5 e5=(v6,x6,e6)) (r7:TabR.rdN 1 x6 e6=(v7,x7,e7)) (r8:TxtR.rtx x7 e7=(cs,x8,e8))
 (hen:TabR.endN x8 e8=0) {xs:List Nat} (hcs:cs=nl xs) (hri:∀A c,¬right ⟨v1,v2,v3,v4,v5,v6,v7,A,xs.length,c,xs⟩) (hxs:xs.length≤100000):Calls Tryz.prog 90 #[.slice A n c] w (Gt w zeroV 3):=by
 have hn:(closed zs).length=n:=Rd.nats hR
 rw [Q2] at hn
 have hc:=hR.le
 have hc2:=hR.cap
 obtain⟨b,o,rfl,_,_⟩:=hR.2.2.2 (by omega)
 have HB0:=Hz (own0 w)
 have HL0:=Hz ((Mb w.heap.size w).alloc (Mr _) (.cells #[.int .i64 0,.int .i64 0,.int .i64 0,.int .i64 0,.int .i64 0,.int .i64 0,.int .i64 0,.slice none 0 0] 40))
 have HN:=Hz hn
 have htk:(closed zs).take (n-36)=zs:=by
  unfold closed
  rw [List.append_assoc,List.take_left' (by omega)]
 have HZ:=Hz (show Rd w (some ⟨b,o,none⟩) (n-36) c (u8n zs) from by have:=hR.take (k:=n-36) (by omega);rw [show (u8n (closed zs)).take (n-36)=u8n ((closed zs).take (n-36)) from by simp [u8n]] at this;rwa [htk] at this)
 have HS:=Hz (fun w' (hb:Bw w w')=>sealed_any (some ⟨b,o,none⟩) (n-36) c zs w' (hT.below hb hT.1) (HZ.o.below hb) hz (by omega))
 have HQ:=Hz (fun w' (hb:Bw w w') (B:Option Addr) (m d:Nat) (hB:Rd w' B m d (u8n (closed zs)))=>Jh (some ⟨b,o,none⟩) B n m c d (closed zs) (closed zs) w' (hR.below hb) hB (closed_lt hz) (closed_lt hz))
 rw [decide_eq_true rfl] at HQ
 have HCY:=Hz (fun w' (hb:Bw w w') (B:Option Addr) (d:Nat) (hP:Rd w' B 2 d (u8n [76,73]))=>Gq b o (n-36) c B d zs w' (HZ.o.below hb) hz hP h2 ht)
 have hd8:∀u ∈ nl (zs.drop 2),0≤u∧u≤255:=by
  intro u hu
  simp only [nl,List.mem_map] at hu
  obtain⟨q,hq,rfl⟩:=hu
  have:=hz q (List.mem_of_mem_drop hq)
  omega
 have HRA:=Hz (fun w' (A:Option Addr) (m k:Nat) (h:Rd w' A m k (u8n (zs.drop 2)))=>(hen▸Vn A m k (nl (zs.drop 2)) w' (by rw [←J7];exact h) hd8 (by have:=Rd.nats h;simp at this;omega) r1 r2 r3 r4 r5 r6 r7 r8))
 have HRI:=Hz hri
 have h36 : ¬(n:Int)<36:=by omega
 have g0:(0:Int)≤(n:Int)-36:=by omega
 have g1:(n:Int)-36≤(c:Int):=by omega
 have g2:((n:Int)-36).toNat=n-36:=by omega
 have kc:=fun (w:World) (C:Array Value) (n c:Nat)=>Lib.run_convert_bytes_const (P:=Tryz.prog) w 38 5 C n c Tryz.underlying38 Tryz.underlying5
 clear hT hR hn htk ht hz r1 r2 r3 r4 r5 r6 r7 r8 hd8 hri
 go_enter Tryz.func90,Tryz.ntmps90
 go_wp2_with fail
 refine (HS.o _ HL0.o).mono ?_
 rintro e w2 ⟨B,m,d,rfl,ho2,hb2⟩
 have HL2:=Hz (HL0.o.trans (hb2.mono (by simp)))
 have HB2:=Hz (HB0.o.below hb2)
 have HO2:=Hz (Rd.own ho2)
 clear ho2 hb2 HL0 HB0
 go_wp2_with fail
 refine (HQ.o _ HL2.o B m d HO2.o).mono ?_
 rintro e w3 ⟨rfl,rfl⟩
 go_wp2_with fail
 have HL3:=Hz (HL2.o.alloc HL2.o.size (.cells #[.int .u8 76,.int .u8 73] 5 (2,3)))
 have HB3:=Hz (HB2.o.alloc (.cells #[.int .u8 76,.int .u8 73] 5 (2,3)))
 refine (HCY.o _ HL3.o (some ⟨w2.heap.size,0,none⟩) 2 (CrcD.Rd.cells w2 [76,73] 5 (m:=(2,3)) rfl (by omega))).mono ?_
 rintro e w4 ⟨A4,m4,k4,rfl,hr4,rfl⟩
 have HR4:=Hz hr4
 clear hr4
 go_wp2_with fail
 refine (HRA.o _ A4 m4 k4 HR4.o).mono ?_
 rintro e w5 ⟨B5,m5,d5,rfl,hr5,hb5,hq5⟩
 have HL5:=Hz (HL3.o.trans (hb5.mono HL3.o.size))
 have HB5:=Hz (HB3.o.below hb5)
 have HR5:=Hz hr5
 have HN5:=Hz (show 0<m5→∀b o,B5=some ⟨b,o,none⟩→¬b=w.heap.size from fun h b o hA hb=>by have:=hq5 h b o hA;have h3:=HB3.o.lt;omega)
 clear hr5 hb5 hq5 HR4 HL3 HB3 HO2
 have hr5:=HR5.o
 rw [hcs,←J7] at hr5
 obtain rfl:xs.length=m5:=Rd.nats hr5
 replace HR5:=Hz hr5
 have HG:=Hz (fun w'=>right_any ⟨v1,v2,v3,v4,v5,v6,v7,B5,xs.length,d5,xs⟩ w' (by show xs.length≤_;omega) false (by simpa using HRI.o B5 d5))
 clear hr5 HRI hcs
 go_wp2_with fail
 have HX6:=Hz (Blk.new w5 40 [.int .i64 v1,.int .i64 v2,.int .i64 v3,.int .i64 v4,.int .i64 v5,.int .i64 v6,.int .i64 v7,.slice B5 xs.length d5])
 have HL6:=Hz (HL5.o.alloc HL5.o.size (.cells #[.int .i64 v1,.int .i64 v2,.int .i64 v3,.int .i64 v4,.int .i64 v5,.int .i64 v6,.int .i64 v7,.slice B5 xs.length d5] 40))
 have HB6:=Hz (HB5.o.alloc (.cells #[.int .i64 v1,.int .i64 v2,.int .i64 v3,.int .i64 v4,.int .i64 v5,.int .i64 v6,.int .i64 v7,.slice B5 xs.length d5] 40))
 have HR6:=Hz (HR5.o.alloc (.cells #[.int .i64 v1,.int .i64 v2,.int .i64 v3,.int .i64 v4,.int .i64 v5,.int .i64 v6,.int .i64 v7,.slice B5 xs.length d5] 40))
 obtain⟨w6,hw6⟩:∃w6,w6=w5.alloc (.cells #[.int .i64 v1,.int .i64 v2,.int .i64 v3,.int .i64 v4,.int .i64 v5,.int .i64 v6,.int .i64 v7,.slice B5 xs.length d5] 40):=⟨_,rfl⟩
 replace HX6:=Hz (show Blk w6 w5.heap.size 40 [.int .i64 v1,.int .i64 v2,.int .i64 v3,.int .i64 v4,.int .i64 v5,.int .i64 v6,.int .i64 v7,.slice B5 xs.length d5] from by rw [hw6];exact HX6.o)
 rw [←hw6] at HL6 HB6 HR6 ⊢
 clear hw6
 refine (HG.o _).mono ?_
 rintro e w7 ⟨rfl,hb7⟩
 have HX7:=Hz (HX6.o.below hb7)
 have HL7:=Hz (HL6.o.trans (hb7.mono HL6.o.size))
 have HB7:=Hz (HB6.o.below hb7)
 have HR7:=Hz (HR6.o.below hb7)
 clear hb7 HX6 HL6 HB6 HR6
 have y0:=HX7.o.cell (i:=0) rfl
 have y1:=HX7.o.cell (i:=1) rfl
 have y2:=HX7.o.cell (i:=2) rfl
 have y3:=HX7.o.cell (i:=3) rfl
 have y4:=HX7.o.cell (i:=4) rfl
 have y5:=HX7.o.cell (i:=5) rfl
 have y6:=HX7.o.cell (i:=6) rfl
 have y7:=HX7.o.cell (i:=7) rfl
 go_wp2_with (refine Qq rfl 40 (.tmp 2) (.tmp 46) rfl w.heap.size rfl zeroI rfl HB7.o rfl Q8 J6 ?_;intro w11 hB11 ho11)
 have k0:=hB11.o.cell (i:=0) rfl
 have k1:=hB11.o.cell (i:=1) rfl
 have k2:=hB11.o.cell (i:=2) rfl
 have k3:=hB11.o.cell (i:=3) rfl
 have k4:=hB11.o.cell (i:=4) rfl
 have k5:=hB11.o.cell (i:=5) rfl
 have k6:=hB11.o.cell (i:=6) rfl
 have k7:=hB11.o.cell (i:=7) rfl
 refine bodyPost_ret (v:=.tuple #[.agg #[.int .i64 0,.int .i64 0,.int .i64 0,.int .i64 0,.int .i64 0,.int .i64 0,.int .i64 0,.slice none 0 0],.int .i64 3]) (by simp [results,Tryz.results90,go_sem,k0,k1,k2,k3,k4,k5,k6,k7]) rfl ?_
 exact⟨rfl,ho11.o.below HL7.o (Mr _) HL7.o.size⟩
def Gi (w:World) (i:Ig) (e:Ending) (w':World):Prop:=∃B m d,e=.returned (.tuple #[.agg #[.int .i64 i.p,.int .i64 i.v,.int .i64 i.h,.int .i64 i.m,.int .i64 i.f,.int .i64 i.s,.int .i64 i.r,.slice B m d],.int .i64 i.e])∧Rd w' B m d (u8n i.xs)∧Bw w w'
theorem Gt.gi {w w':World} {x:Int} {e:Ending} (h:Gt w zeroV x e w'):Gi w (Ig.no x) e w':=⟨none,0,0,h.1,Rd.nil w',h.2⟩
theorem get_any (A:Option Addr) (n c:Nat) (ys:List Nat) (w:World) (hT:Tab w) (hR:Rd w A n c (u8n ys)) (hx:by256 ys) (hm:n≤1000):Calls Tryz.prog 90 #[.slice A n c] w (Gi w (iG ys)):=by
 have hn:ys.length=n:=Rd.nats hR
 unfold iG
 by_cases h1:ys.length<36
 ·rw [if_pos h1]
  exact (get_short A n c w (by omega)).mono fun _ _ h=>Gt.gi h
 rw [if_neg h1]
 by_cases h2:ys≠closed (ys.take (ys.length-36))
 ·rw [if_pos h2]
  exact (get_bad A n c ys w hT hR hx (by omega) (by omega) (by rw [←hn];exact h2)).mono fun _ _ h=>Gt.gi h
 rw [if_neg h2]
 have h2':ys=closed (ys.take (ys.length-36)):=Mc_ h2
 obtain⟨zs,hzs⟩:∃zs,zs=ys.take (ys.length-36):=⟨_,rfl⟩
 rw [←hzs] at h2' ⊢
 have hz:by256 zs:=fun u hu=>hx u (by rw [hzs] at hu;exact List.mem_of_mem_take hu)
 have hzl:zs.length≤1000:=by rw [hzs,Mk_];omega
 have hR':Rd w A n c (u8n (closed zs)):=by rw [←h2'];exact hR
 by_cases h3:zs.take 2≠[76,73]
 ·rw [if_pos h3]
  exact (get_form A n c zs w hT hR' hz hzl h3).mono fun _ _ h=>Gt.gi h
 rw [if_neg h3]
 have h3':zs.take 2=[76,73]:=Mc_ h3
 have hz2:2≤zs.length:=by
  have:=congrArg List.length h3'
  rw [Mk_] at this
  have e:([76,73]:List Nat).length=2:=rfl
  omega
 have hzd:by256 (zs.drop 2):=fun u hu=>hz u (List.mem_of_mem_drop hu)
 obtain⟨d,hd⟩:∃d,d=zs.drop 2:=⟨_,rfl⟩
 rw [←hd] at hzd ⊢
 have r1:TabR.rdN 1 (nl (zs.drop 2)) 0=((q1 d).1,(q1 d).2.1,(q1 d).2.2):=by rw [←hd];rfl
 have he:=rdI_e d
 by_cases h4:(rdI d).e≠0
 ·rw [if_pos h4]
  rcases he with e0|e0|e0
  ·exact absurd e0 h4
  ·rw [e0]
   exact (get_cut A n c zs w hT hR' hz hz2 hzl h3' r1 (show TabR.rdN 2 (q1 d).2.1 (q1 d).2.2=((q2 d).1,(q2 d).2.1,(q2 d).2.2) from rfl) (show TabR.rdN 2 (q2 d).2.1 (q2 d).2.2=((q3 d).1,(q3 d).2.1,(q3 d).2.2) from rfl) (show TabR.rdN 1 (q3 d).2.1 (q3 d).2.2=((q4 d).1,(q4 d).2.1,(q4 d).2.2) from rfl) (show TabR.rdN 1 (q4 d).2.1 (q4 d).2.2=((q5 d).1,(q5 d).2.1,(q5 d).2.2) from rfl) (show TabR.rdN 1 (q5 d).2.1 (q5 d).2.2=((q6 d).1,(q6 d).2.1,(q6 d).2.2) from rfl) (show TabR.rdN 1 (q6 d).2.1 (q6 d).2.2=((q7 d).1,(q7 d).2.1,(q7 d).2.2) from rfl) (show TxtR.rtx (q7 d).2.1 (q7 d).2.2=((q8 d).1,(q8 d).2.1,(q8 d).2.2) from rfl) e0).mono fun _ _ h=>Gt.gi h
  ·rw [e0]
   exact (get_left A n c zs w hT hR' hz hz2 hzl h3' r1 (show TabR.rdN 2 (q1 d).2.1 (q1 d).2.2=((q2 d).1,(q2 d).2.1,(q2 d).2.2) from rfl) (show TabR.rdN 2 (q2 d).2.1 (q2 d).2.2=((q3 d).1,(q3 d).2.1,(q3 d).2.2) from rfl) (show TabR.rdN 1 (q3 d).2.1 (q3 d).2.2=((q4 d).1,(q4 d).2.1,(q4 d).2.2) from rfl) (show TabR.rdN 1 (q4 d).2.1 (q4 d).2.2=((q5 d).1,(q5 d).2.1,(q5 d).2.2) from rfl) (show TabR.rdN 1 (q5 d).2.1 (q5 d).2.2=((q6 d).1,(q6 d).2.1,(q6 d).2.2) from rfl) (show TabR.rdN 1 (q6 d).2.1 (q6 d).2.2=((q7 d).1,(q7 d).2.1,(q7 d).2.2) from rfl) (show TxtR.rtx (q7 d).2.1 (q7 d).2.2=((q8 d).1,(q8 d).2.1,(q8 d).2.2) from rfl) e0).mono fun _ _ h=>Gt.gi h
 rw [if_neg h4]
 have e0:TabR.endN (q8 d).2.1 (q8 d).2.2=0:=Mc_ h4
 have hcl:(rdI d).xs.length≤1000:=by
  show ((q8 d).1.map Int.toNat).length≤1000
  rw [List.length_map]
  exact Ml (q8_len d) (by rw [hd,List.length_drop];omega)
 by_cases h5:(rdI d).right
 ·rw [if_pos h5]
  refine (get_ok A n c zs w hT hR' hz hz2 hzl h3' r1 (show TabR.rdN 2 (q1 d).2.1 (q1 d).2.2=((q2 d).1,(q2 d).2.1,(q2 d).2.2) from rfl) (show TabR.rdN 2 (q2 d).2.1 (q2 d).2.2=((q3 d).1,(q3 d).2.1,(q3 d).2.2) from rfl) (show TabR.rdN 1 (q3 d).2.1 (q3 d).2.2=((q4 d).1,(q4 d).2.1,(q4 d).2.2) from rfl) (show TabR.rdN 1 (q4 d).2.1 (q4 d).2.2=((q5 d).1,(q5 d).2.1,(q5 d).2.2) from rfl) (show TabR.rdN 1 (q5 d).2.1 (q5 d).2.2=((q6 d).1,(q6 d).2.1,(q6 d).2.2) from rfl) (show TabR.rdN 1 (q6 d).2.1 (q6 d).2.2=((q7 d).1,(q7 d).2.1,(q7 d).2.2) from rfl) (show TxtR.rtx (q7 d).2.1 (q7 d).2.2=((q8 d).1,(q8 d).2.1,(q8 d).2.2) from rfl) e0 (q8_nl hzd) (fun A c=>h5) (by have:=h5.2.2.2.2.2.2.2.2;exact_mod_cast this)).mono ?_
  rintro e w' ⟨B,d',⟨he,hb⟩,hr⟩
  refine⟨B,_,d',?_,hr,hb⟩
  rw [he,show (rdI d).e=0 from e0]
  rfl
 ·rw [if_neg h5]
  exact (get_range A n c zs w hT hR' hz hz2 hzl h3' r1 (show TabR.rdN 2 (q1 d).2.1 (q1 d).2.2=((q2 d).1,(q2 d).2.1,(q2 d).2.2) from rfl) (show TabR.rdN 2 (q2 d).2.1 (q2 d).2.2=((q3 d).1,(q3 d).2.1,(q3 d).2.2) from rfl) (show TabR.rdN 1 (q3 d).2.1 (q3 d).2.2=((q4 d).1,(q4 d).2.1,(q4 d).2.2) from rfl) (show TabR.rdN 1 (q4 d).2.1 (q4 d).2.2=((q5 d).1,(q5 d).2.1,(q5 d).2.2) from rfl) (show TabR.rdN 1 (q5 d).2.1 (q5 d).2.2=((q6 d).1,(q6 d).2.1,(q6 d).2.2) from rfl) (show TabR.rdN 1 (q6 d).2.1 (q6 d).2.2=((q7 d).1,(q7 d).2.1,(q7 d).2.2) from rfl) (show TxtR.rtx (q7 d).2.1 (q7 d).2.2=((q8 d).1,(q8 d).2.1,(q8 d).2.2) from rfl) e0 (q8_nl hzd) (fun A c=>h5) (by have:=hcl;exact Ml this (by decide))).mono fun _ _ h=>Gt.gi h
end ImgU
namespace Fld
theorem Jv {P:Program} {T:TypeId} {fs:Array Field} {f:Field} {k:Nat} {xs:List Value} {v:Value} (ht:P.underlying T=some (.struct fs)) (hf:fs[k]?=some f) (hd:∃d,P.underlying f.type=some (.int d)) (hv:xs[f.offset]?=some v) (w:World) :
 (Instr.field T (.agg xs.toArray) k).run P w=.ok v w:=by
 obtain⟨d,hd⟩:=hd
 simp [Instr.field,run_underlying ht,hf,part,isAgg,run_underlying hd,hv,asAgg]
end Fld
namespace StoN
open Kit Byt Mem DskA StgM CmtM
open RecA (rval rcells rok sval scells sok)
open StgN (Sm DS Sgo)
open CmtN (Lm LS Lgo)
open TabA (Tri Tris Ta)
open ImgT (Ig iG)
open ImgU (Gi)
open ShaM (by256)
open ShaE (Tab)
theorem rfield (r0 r1 r2 r3 r4 r5:Int) (w:World):(Instr.field 54 (.agg #[.int .i64 r0,.int .i64 r1,.int .i64 r2,.int .i64 r3,.int .i64 r4,.int .i64 r5]) 0).run Tryz.prog w=.ok (.int .i64 r0) w∧(Instr.field 54 (.agg #[.int .i64 r0,.int .i64 r1,.int .i64 r2,.int .i64 r3,.int .i64 r4,.int .i64 r5]) 2).run Tryz.prog w=.ok (.int .i64 r2) w∧(Instr.field 54 (.agg #[.int .i64 r0,.int .i64 r1,.int .i64 r2,.int .i64 r3,.int .i64 r4,.int .i64 r5]) 3).run Tryz.prog w=.ok (.int .i64 r3) w:=
 ⟨Fld.Jv (xs:=[.int .i64 r0,.int .i64 r1,.int .i64 r2,.int .i64 r3,.int .i64 r4,.int .i64 r5]) Tryz.underlying54 rfl ⟨_,Tryz.underlying3⟩ rfl w,Fld.Jv (xs:=[.int .i64 r0,.int .i64 r1,.int .i64 r2,.int .i64 r3,.int .i64 r4,.int .i64 r5]) Tryz.underlying54 rfl ⟨_,Tryz.underlying3⟩ rfl w,Fld.Jv (xs:=[.int .i64 r0,.int .i64 r1,.int .i64 r2,.int .i64 r3,.int .i64 r4,.int .i64 r5]) Tryz.underlying54 rfl ⟨_,Tryz.underlying3⟩ rfl w⟩
theorem V8 (c:Int) (hc:0≤c∧c≤1) (w:World):Calls Tryz.prog 42 #[.int .i64 c] w fun e w'=>e=.returned (.int .i64 (1-c))∧w=w':=by
 have e:IntKind.i64.wrap (1-c)=1-c:=by rw [Mi_];omega
 go_enter Tryz.func42,Tryz.ntmps42
 go_wp2
 go_ret
 exact⟨rfl,rfl⟩
section
variable {w:World} {J:Nat→Prop} {a g:Nat} {l:Lg}
theorem qvg (h:Lm w J a g l) (b:Bool) (hb:b=true↔l.r.a≠l.r.c) (s0 s1 d:Nat) :
 Calls Tryz.prog 55 #[pval d a s0 s1] w fun e w'=>e=.returned (.bool b)∧Bw w w':=by
 have L0:=Hz (show Bw w (w.alloc (.cells #[.pointer (some ⟨a,0,none⟩),.pointer (some ⟨s0,0,none⟩),.pointer (some ⟨s1,0,none⟩),.pointer (some ⟨d,0,none⟩)] 82)) from (Mb _ _).alloc (Mr _) _)
 have hl:=fun w' (hb:Bw w w')=>CmtN.Uk J g a l w' (h.below hb)
 obtain⟨r,hr⟩:∃r,r=l.r:=⟨_,rfl⟩
 rw [←hr] at hl hb
 obtain⟨r0,r1,ra,rc,r4,r5⟩:=r
 dsimp only [rval] at hl
 have HL:=Hz hl
 clear hl
 have HB:=Hz hb
 clear h hr hb
 go_enter Tryz.func55,Tryz.ntmps55
 go_wp2_with (go_at_call 41;refine (HL.o _ L0.o).mono ?_;rintro e w1 ⟨rfl,hb1⟩;have L1:=Hz (L0.o.trans (hb1.mono L0.o.size));clear hb1)
 go_ret
 exact⟨Q0 (by rw [Bool.eq_iff_iff,HB.o];simp),L1.o.alloc L1.o.size _⟩
theorem qjh (h:Lm w J a g l) (hc:0≤l.r.c∧l.r.c≤1) (s0 s1 d q:Nat) (hq:q=if l.r.c=0 then s1 else s0) :
 Calls Tryz.prog 37 #[pval d a s0 s1] w fun e w'=>e=.returned (.pointer (some ⟨q,0,none⟩))∧Bw w w':=by
 have L0:=Hz (show Bw w (w.alloc (.cells #[.pointer (some ⟨a,0,none⟩),.pointer (some ⟨s0,0,none⟩),.pointer (some ⟨s1,0,none⟩),.pointer (some ⟨d,0,none⟩)] 82)) from (Mb _ _).alloc (Mr _) _)
 have HB0:=Hz (show Blk (w.alloc (.cells #[.pointer (some ⟨a,0,none⟩),.pointer (some ⟨s0,0,none⟩),.pointer (some ⟨s1,0,none⟩),.pointer (some ⟨d,0,none⟩)] 82)) w.heap.size 82 (pcs d a s0 s1) from Blk.new w _ _)
 have hl:=fun w' (hb:Bw w w')=>CmtN.Uk J g a l w' (h.below hb)
 obtain⟨r,hr⟩:∃r,r=l.r:=⟨_,rfl⟩
 rw [←hr] at hl hc hq
 obtain⟨r0,r1,ra,rc,r4,r5⟩:=r
 dsimp only [rval] at hl
 have HL:=Hz hl
 clear hl
 clear h hr
 rcases (show rc=0∨rc=1 from by have h1:=hc.1;have h2:=hc.2;simp only at h1 h2;omega) with rfl|rfl
 ·obtain rfl:q=s1:=hq
  have HO:=Hz (fun w'=>(show Calls Tryz.prog 42 #[.int .i64 0] w' fun e w''=>e=.returned (.int .i64 1)∧w'=w'' from V8 0 hc w'))
  have hfl:=fun w=>(rfield r0 r1 ra 0 r4 r5 w).2.2
  clear hc
  go_enter Tryz.func37,Tryz.ntmps37
  go_wp2_with (first
   | (go_at_call 41;refine (HL.o _ L0.o).mono ?_;rintro e w1 ⟨rfl,hb1⟩;have L1:=Hz (L0.o.trans (hb1.mono L0.o.size));have HB1:=HB0.o.below hb1;have c2:=HB1.cell (i:=2) rfl;clear hb1 HB1)
   | (go_at_call 42;refine (HO.o _).mono ?_;rintro e w2 ⟨rfl,rfl⟩))
  go_ret
  exact⟨rfl,L1.o⟩
 ·obtain rfl:q=s0:=hq
  have HO:=Hz (fun w'=>(show Calls Tryz.prog 42 #[.int .i64 1] w' fun e w''=>e=.returned (.int .i64 0)∧w'=w'' from V8 1 hc w'))
  have hfl:=fun w=>(rfield r0 r1 ra 1 r4 r5 w).2.2
  clear hc
  go_enter Tryz.func37,Tryz.ntmps37
  go_wp2_with (first
   | (go_at_call 41;refine (HL.o _ L0.o).mono ?_;rintro e w1 ⟨rfl,hb1⟩;have L1:=Hz (L0.o.trans (hb1.mono L0.o.size));have HB1:=HB0.o.below hb1;have c1:=HB1.cell (i:=1) rfl;clear hb1 HB1)
   | (go_at_call 42;refine (HO.o _).mono ?_;rintro e w2 ⟨rfl,rfl⟩))
  go_ret
  exact⟨rfl,L1.o⟩
end
def kim (s:St) (t:Slt):Ig:=if (pY s t).2=0 then iG (pY s t).1 else Ig.no (pY s t).2
def zim:List Value:=[.int .i64 0,.int .i64 0,.int .i64 0,.int .i64 0,.int .i64 0,.int .i64 0,.int .i64 0,.slice none 0 0]
theorem Zq:(Tryz.prog.info? 40).map (·.size)=some 8:=by kernel_rfl
def igcs (i:Ig) (B:Option Addr) (m d:Nat):List Value:=[.int .i64 i.p,.int .i64 i.v,.int .i64 i.h,.int .i64 i.m,.int .i64 i.f,.int .i64 i.s,.int .i64 i.r,.slice B m d]
theorem one_igcs (i:Ig) (B:Option Addr) (m d:Nat):∀u ∈ igcs i B m d,u.oneCell'=true:=by intro u hu;simp [igcs] at hu;rcases hu with rfl|rfl|rfl|rfl|rfl|rfl|rfl|rfl <;> rfl
theorem rd_ne {w:World} {B:Option Addr} {m d q:Nat} {xs:List Nat} {ty:TypeId} {C:List Value} (hR:Rd w B m d (u8n xs)) (hB:Blk w q ty C) (hC:∀u ∈ C,∀x,u≠.int .u8 x) (hm:0<m):∀b o,B=some ⟨b,o,none⟩→b≠q:=by
 intro b o e1 e2
 obtain⟨b',o',hA,hb,hj⟩:=hR.2.2.2 hm
 rw [e1] at hA
 injection hA with hA
 injection hA with h1 h2
 subst h1 h2 e2
 have hl:xs.length=m:=Rd.nats hR
 have h0:(u8n xs)[0]?=some (.int .u8 ((xs[0]'(by omega):Nat):Int)):=by simp [u8n,show 0<xs.length from by omega]
 have h3:=hj 0 _ h0
 rw [Nat.add_zero,cell_of_row w b o _ _ _ hB] at h3
 have h4:C[o]?=some (.int .u8 ((xs[0]'(by omega):Nat):Int)):=by simpa using h3
 exact hC _ (List.mem_of_getElem? h4) _ rfl
theorem igcs_no (i:Ig) (B:Option Addr) (m d:Nat):∀u ∈ igcs i B m d,∀x,u≠.int .u8 x:=by
 intro u hu x e
 subst e
 simp [igcs] at hu
theorem rd_only {w w':World} {B:Option Addr} {m d q:Nat} {xs:List Nat} {ty:TypeId} {C:List Value} (hR:Rd w B m d (u8n xs)) (hB:Blk w q ty C) (hC:∀u ∈ C,∀x,u≠.int .u8 x) (ho:Only q w w'):Rd w' B m d (u8n xs):=
 (Keep.only (F:=fun i=>i=q) ho rfl).rd hR fun hm b o e=>rd_ne hR hB hC hm b o e
section
variable {w:World} {F J:Nat→Prop} {a g:Nat} {s:St} {t:Slt}
theorem image_any (h:DS w F J g a s t) (hT:Tab w) (hg:t.has=true→t.g.right) (hx:by256 (pY s t).1) (hm:(pY s t).1.length≤1000) (s0 s1 k:Nat) (hk:k=0∧a=s0∨k=1∧a=s1) :
 Calls Tryz.prog 43 #[.agg #[.pointer (some ⟨s0,0,none⟩),.pointer (some ⟨s1,0,none⟩)],.int .i64 (k:Nat)] w (Gi w (kim s t)):=by
 have HY:=Hz (fun w' (hb:Bw w w')=>StgN.Wl F J g a s t w' ⟨h.dk.below hb,h.sm.below hb,h.dis,h.most,h.fits⟩ hg)
 have HT:=Hz (fun w' (hb:Bw w w')=>hT.below hb hT.1)
 have HK:=Hz (show kim s t=if (pY s t).2=0 then iG (pY s t).1 else Ig.no (pY s t).2 from rfl)
 obtain⟨i,hi⟩:∃i,i=kim s t:=⟨_,rfl⟩
 rw [←hi] at HK ⊢
 obtain⟨ys,hys⟩:∃ys,ys=(pY s t).1:=⟨_,rfl⟩
 obtain⟨e0,he0⟩:∃e0,e0=(pY s t).2:=⟨_,rfl⟩
 rw [←hys,←he0] at HK HY
 rw [←hys] at hx hm
 have HX:=Hz hx
 have HM:=Hz hm
 have HG:=Hz (fun (A:Option Addr) (n c:Nat) (w':World) (hb:Bw w w') (hR:Rd w' A n c (u8n ys)) (hn:n≤1000)=>ImgU.get_any A n c ys w' (HT.o w' hb) hR HX.o hn)
 clear h hT hg hi hys he0 hx hm
 obtain⟨w0,hw0⟩:∃w0,w0=(w.alloc (.cells #[.pointer (some ⟨s0,0,none⟩),.pointer (some ⟨s1,0,none⟩)] 80)).alloc (.cells zim.toArray 40):=⟨_,rfl⟩
 have L0:=Hz (show Bw w w0 from by rw [hw0];exact ((Mb _ _).alloc (Mr _) _).alloc (by rw [Ms];omega) _)
 have B0:=Hz (show Blk w0 w.heap.size 80 [.pointer (some ⟨s0,0,none⟩),.pointer (some ⟨s1,0,none⟩)] from by rw [hw0];exact (Blk.new w _ [.pointer (some ⟨s0,0,none⟩),.pointer (some ⟨s1,0,none⟩)]).alloc _)
 have B1:=Hz (show Blk w0 (w.heap.size+1) 40 zim from by
  rw [hw0]
  have:=Blk.new (w.alloc (.cells #[.pointer (some ⟨s0,0,none⟩),.pointer (some ⟨s1,0,none⟩)] 80)) 40 zim
  rw [Ms] at this
  exact this)
 have hw0':(w.alloc (.cells #[.pointer (some ⟨s0,0,none⟩),.pointer (some ⟨s1,0,none⟩)] 80)).alloc (.cells #[.int .i64 0,.int .i64 0,.int .i64 0,.int .i64 0,.int .i64 0,.int .i64 0,.int .i64 0,.slice none 0 0] 40)=w0:=hw0.symm
 clear hw0
 have c0:w0.cell? ⟨w.heap.size,k,none⟩=some (.pointer (some ⟨a,0,none⟩)):=by
  rcases hk with⟨rfl,rfl⟩|⟨rfl,rfl⟩
  ·exact B0.o.cell rfl
  ·exact B0.o.cell rfl
 have hk1:k<2:=by omega
 clear hk
 by_cases h0:e0=0
 ·have HI:=Hz (show i=iG ys from by rw [HK.o,if_pos h0])
  subst h0
  rw [HI.o]
  obtain⟨x,hxx⟩:∃x,x=iG ys:=⟨_,rfl⟩
  rw [←hxx] at HG ⊢
  clear hxx
  go_enter Tryz.func43,Tryz.ntmps43
  go_wp2_with (first
   | (go_at_call 89;refine (HY.o _ L0.o).mono ?_;rintro e w1 ⟨B,m,d,rfl,hR,hb1⟩;have L1:=Hz (L0.o.trans (hb1.mono L0.o.size));have HR:=Hz hR;have HMM:=Hz (show m≤1000 from (by have:=Rd.nats hR;have:=HM.o;omega));have B2:=Hz (B1.o.below hb1);clear hb1 hR)
   | (go_at_call 90;refine (HG.o B m d w1 L1.o HR.o HMM.o).mono ?_;rintro e w2 ⟨B3,m3,d3,rfl,hR3,hb3⟩;have L2:=Hz (L1.o.trans (hb3.mono L1.o.size));have HR3:=Hz hR3;have B4:=Hz (B2.o.below hb3);clear hb3 hR3)
   | (refine Qq rfl 40 (.tmp 4) (.tmp 21) rfl (w.heap.size+1) rfl (igcs x B3 m3 d3) rfl B4.o rfl Zq (one_igcs _ _ _ _) ?_;intro w5 hB5 ho5))
  have q0:=hB5.o.cell (i:=0) rfl
  have q1:=hB5.o.cell (i:=1) rfl
  have q2:=hB5.o.cell (i:=2) rfl
  have q3:=hB5.o.cell (i:=3) rfl
  have q4:=hB5.o.cell (i:=4) rfl
  have q5:=hB5.o.cell (i:=5) rfl
  have q6:=hB5.o.cell (i:=6) rfl
  have q7:=hB5.o.cell (i:=7) rfl
  refine bodyPost_ret (v:=.tuple #[.agg #[.int .i64 x.p,.int .i64 x.v,.int .i64 x.h,.int .i64 x.m,.int .i64 x.f,.int .i64 x.s,.int .i64 x.r,.slice B3 m3 d3],.int .i64 x.e]) (by simp [results,Tryz.results43,go_sem,q0,q1,q2,q3,q4,q5,q6,q7]) rfl ?_
  have hs2:=L2.o.size
  exact⟨B3,m3,d3,rfl,rd_only HR3.o B4.o (igcs_no (Ig.no 0) none 0 0) ho5.o,ho5.o.below L2.o (by omega) hs2⟩
 ·have HI:=Hz (show i=Ig.no e0 from by rw [HK.o,if_neg h0])
  rw [HI.o]
  clear HG HM HX
  go_enter Tryz.func43,Tryz.ntmps43
  go_wp2_with (first
   | (go_at_call 89;refine (HY.o _ L0.o).mono ?_;rintro e w1 ⟨B,m,d,rfl,hR,hb1⟩;have L1:=Hz (L0.o.trans (hb1.mono L0.o.size));have B2:=Hz (B1.o.below hb1);clear hb1 hR)
   | (refine Qq rfl 40 (.tmp 4) (.tmp 17) rfl (w.heap.size+1) rfl zim rfl B2.o rfl Zq (one_igcs (Ig.no 0) none 0 0) ?_;intro w5 hB5 ho5))
  have q0:=hB5.o.cell (i:=0) rfl
  have q1:=hB5.o.cell (i:=1) rfl
  have q2:=hB5.o.cell (i:=2) rfl
  have q3:=hB5.o.cell (i:=3) rfl
  have q4:=hB5.o.cell (i:=4) rfl
  have q5:=hB5.o.cell (i:=5) rfl
  have q6:=hB5.o.cell (i:=6) rfl
  have q7:=hB5.o.cell (i:=7) rfl
  refine bodyPost_ret (v:=.tuple #[.agg #[.int .i64 0,.int .i64 0,.int .i64 0,.int .i64 0,.int .i64 0,.int .i64 0,.int .i64 0,.slice none 0 0],.int .i64 e0]) (by simp [results,Tryz.results43,go_sem,q0,q1,q2,q3,q4,q5,q6,q7]) rfl ?_
  have hs1:=L1.o.size
  exact⟨none,0,0,rfl,Rd.nil _,ho5.o.below L1.o (by omega) hs1⟩
end
end StoN
namespace StoN
open Mem StoM
open RecA (rval rcells rok sval scells sok)
open StgN (Sm DS Sgo)
open CmtN (Lm LS Lgo)
open TabA (Tri Tris Ta)
theorem Qy:(Tryz.prog.info? 82).map (·.size)=some 4:=by kernel_rfl
theorem one_pcs (g la s0 s1:Nat):∀u ∈ pcs g la s0 s1,u.oneCell'=true:=by intro u hu;simp [pcs] at hu;rcases hu with rfl|rfl|rfl|rfl <;> rfl
def pzs:List Value:=[.pointer none,.pointer none,.pointer none,.pointer none]
theorem Y2:∀u ∈ pzs,u.oneCell'=true:=by intro u hu;simp [pzs] at hu;subst hu;rfl
section
variable {w:World} {ζ:Nat→Zl} {g n p:Nat} {t:Ta} {P:Nat→Pt} {Z:Lo}
theorem at_no (h:Zm w ζ g t n P Z) (q:Int) (hq:q<0∨(n:Int)≤q):Calls Tryz.prog 53 #[.pointer (some ⟨Z.z,0,none⟩),.int .i64 q] w fun e w'=>e=.returned (.tuple #[pzero,.int .i64 3])∧Bw w w':=by
 obtain⟨_,_,_,_,_,c5⟩:=h.tcells
 have hn:=h.n4
 have hzl:=h.head.lt
 have hnc:=hn.2.2.2
 have hn4:=hn.2.1
 clear h hn
 by_cases h0:q<0
 ·go_enter Tryz.func53,Tryz.ntmps53
  go_wp2
  refine bodyPost_ret (v:=.tuple #[pzero,.int .i64 3]) (by simp [results,Tryz.results53,go_sem]) rfl ?_
  exact⟨rfl,(Mb _ _).alloc (Mr _) _⟩
 ·have h1:(n:Int)≤q:=by omega
  clear hq
  go_enter Tryz.func53,Tryz.ntmps53
  go_wp2
  refine bodyPost_ret (v:=.tuple #[pzero,.int .i64 3]) (by simp [results,Tryz.results53,go_sem]) rfl ?_
  exact⟨rfl,(Mb _ _).alloc (Mr _) _⟩
theorem at_yes (h:Zm w ζ g t n P Z) (hp:p<n):Calls Tryz.prog 53 #[.pointer (some ⟨Z.z,0,none⟩),.int .i64 (p:Nat)] w fun e w'=>e=.returned (.tuple #[pval g (Z.la p) (Z.sa p 0) (Z.sa p 1),.int .i64 0])∧Bw w w':=by
 obtain⟨_,_,_,_,_,c5⟩:=h.tcells
 have hn:=h.n4
 have hzl:=h.head.lt
 have hbl:=h.list.lt
 have HL:=Hz (h.list.alloc (.cells pzs.toArray 82))
 have HO:=Hz (h.own p hp).2
 have hnc:=hn.2.2.2
 have hn4:=hn.2.1
 obtain⟨la,hla⟩:∃la,la=Z.la p:=⟨_,rfl⟩
 obtain⟨s0,hs0⟩:∃s0,s0=Z.sa p 0:=⟨_,rfl⟩
 obtain⟨s1,hs1⟩:∃s1,s1=Z.sa p 1:=⟨_,rfl⟩
 rw [←hla,←hs0,←hs1] at HO ⊢
 obtain⟨z,hz⟩:∃z,z=Z.z:=⟨_,rfl⟩
 obtain⟨pb,hpb⟩:∃pb,pb=Z.pb:=⟨_,rfl⟩
 obtain⟨pc,hpc⟩:∃pc,pc=Z.pc:=⟨_,rfl⟩
 rw [←hz] at c5 hzl ⊢
 rw [←hpb] at c5 hbl HL
 rw [←hpc] at c5 hnc
 have hnp:=hn.2.2.1
 rw [←hpc] at hnp
 clear h hn hla hs0 hs1 hz hpb hpc
 go_enter Tryz.func53,Tryz.ntmps53
 go_wp2_with (refine Qz rfl 82 (.tmp 28) rfl pb (p*4) rfl [.pointer (some ⟨la,0,none⟩),.pointer (some ⟨s0,0,none⟩),.pointer (some ⟨s1,0,none⟩),.pointer (some ⟨g,0,none⟩)] HL.o HO.o Tryz.underlying82 rfl Qy ?_)
 refine bodyPost_ret (v:=.tuple #[pval g la s0 s1,.int .i64 0]) (by simp [results,Tryz.results53,go_sem]) rfl ?_
 exact⟨rfl,(Mb _ _).alloc (Mr _) _⟩
end
section
variable {w:World} {ζ:Nat→Zl} {g n p:Nat} {t:Ta} {P:Nat→Pt} {Z:Lo}
def No (w:World) (x:Int) (e:Ending) (w':World):Prop:=e=.returned (.tuple #[pzero,.int .i64 x])∧Bw w w'
def Is (w:World) (g la s0 s1:Nat) (e:Ending) (w':World):Prop:=e=.returned (.tuple #[pval g la s0 s1,.int .i64 0])∧Bw w w'
theorem qji (zv:Value) (q x:Int) (hx:x≠0) (H:∀w',Bw w w'→Calls Tryz.prog 53 #[zv,.int .i64 q] w' (No w' x)) :
 Calls Tryz.prog 34 #[zv,.int .i64 q] w (No w x):=by
 have HA:=Hz H
 have L0:=Hz (show Bw w (w.alloc (.cells pzs.toArray 82)) from (Mb _ _).alloc (Mr _) _)
 have B0:=Hz (Blk.new w 82 pzs)
 clear H
 go_enter Tryz.func34,Tryz.ntmps34
 go_wp2_with (first
  | (go_at_call 53;refine (HA.o _ L0.o).mono ?_;rintro e w1 ⟨rfl,hb1⟩;have L1:=Hz (L0.o.trans (hb1.mono L0.o.size));have B1:=Hz (B0.o.below hb1);have B2:=Hz (B1.o.alloc (.cells pzs.toArray 82));clear hb1)
  | (refine Qq rfl 82 (.tmp 4) (.tmp 17) rfl w.heap.size rfl pzs rfl B2.o rfl Qy Y2 ?_;intro w5 hB5 ho5))
 have q0:=hB5.o.cell (i:=0) rfl
 have q1:=hB5.o.cell (i:=1) rfl
 have q2:=hB5.o.cell (i:=2) rfl
 have q3:=hB5.o.cell (i:=3) rfl
 refine bodyPost_ret (v:=.tuple #[pzero,.int .i64 x]) (by simp [results,Tryz.results34,go_sem,q0,q1,q2,q3]) rfl ?_
 exact⟨rfl,ho5.o.below (L1.o.alloc L1.o.size _) (Mr _) (by have:=L1.o.size;rw [Ms];omega)⟩
theorem Gh (zv:Value) (q:Int) (d la s0 s1:Nat) (H:∀w',Bw w w'→Calls Tryz.prog 53 #[zv,.int .i64 q] w' (Is w' d la s0 s1))
 (H2:∀w',Bw w w'→Calls Tryz.prog 55 #[pval d la s0 s1] w' fun e w''=>e=.returned (.bool true)∧Bw w' w'') :
 Calls Tryz.prog 34 #[zv,.int .i64 q] w (No w 18):=by
 have HA:=Hz H
 have HT:=Hz H2
 have L0:=Hz (show Bw w (w.alloc (.cells pzs.toArray 82)) from (Mb _ _).alloc (Mr _) _)
 have B0:=Hz (Blk.new w 82 pzs)
 clear H H2
 go_enter Tryz.func34,Tryz.ntmps34
 go_wp2_with (first
  | (go_at_call 53;refine (HA.o _ L0.o).mono ?_;rintro e w1 ⟨rfl,hb1⟩;have L1:=Hz (L0.o.trans (hb1.mono L0.o.size));have B1:=Hz (B0.o.below hb1);have L2:=Hz (L1.o.alloc L1.o.size (.cells (pcs d la s0 s1).toArray 82));have B2:=Hz (B1.o.alloc (.cells (pcs d la s0 s1).toArray 82));have X2:=Hz (Blk.new w1 82 (pcs d la s0 s1));clear hb1)
  | (go_at_call 55;refine (HT.o _ L2.o).mono ?_;rintro e w3 ⟨rfl,hb3⟩;have L3:=Hz (L2.o.trans (hb3.mono L2.o.size));have B3:=Hz (B2.o.below hb3);have X3:=Hz (X2.o.below hb3);clear hb3)
  | (refine Qj rfl 82 (.tmp 6) rfl w1.heap.size rfl X3.o Tryz.underlying82 rfl Qy ?_)
  | (refine Qq rfl 82 (.tmp 4) (.tmp 22) rfl w.heap.size rfl pzs rfl B3.o rfl Qy Y2 ?_;intro w5 hB5 ho5))
 have q0:=hB5.o.cell (i:=0) rfl
 have q1:=hB5.o.cell (i:=1) rfl
 have q2:=hB5.o.cell (i:=2) rfl
 have q3:=hB5.o.cell (i:=3) rfl
 refine bodyPost_ret (v:=.tuple #[pzero,.int .i64 18]) (by simp [results,Tryz.results34,go_sem,q0,q1,q2,q3]) rfl ?_
 exact⟨rfl,ho5.o.below L3.o (Mr _) L3.o.size⟩
theorem qjj (zv:Value) (q:Int) (d la s0 s1:Nat) (H:∀w',Bw w w'→Calls Tryz.prog 53 #[zv,.int .i64 q] w' (Is w' d la s0 s1))
 (H2:∀w',Bw w w'→Calls Tryz.prog 55 #[pval d la s0 s1] w' fun e w''=>e=.returned (.bool false)∧Bw w' w'') :
 Calls Tryz.prog 34 #[zv,.int .i64 q] w (Is w d la s0 s1):=by
 have HA:=Hz H
 have HT:=Hz H2
 have L0:=Hz (show Bw w (w.alloc (.cells pzs.toArray 82)) from (Mb _ _).alloc (Mr _) _)
 have B0:=Hz (Blk.new w 82 pzs)
 clear H H2
 go_enter Tryz.func34,Tryz.ntmps34
 go_wp2_with (first
  | (go_at_call 53;refine (HA.o _ L0.o).mono ?_;rintro e w1 ⟨rfl,hb1⟩;have L1:=Hz (L0.o.trans (hb1.mono L0.o.size));have B1:=Hz (B0.o.below hb1);have L2:=Hz (L1.o.alloc L1.o.size (.cells (pcs d la s0 s1).toArray 82));have B2:=Hz (B1.o.alloc (.cells (pcs d la s0 s1).toArray 82));have X2:=Hz (Blk.new w1 82 (pcs d la s0 s1));clear hb1)
  | (go_at_call 55;refine (HT.o _ L2.o).mono ?_;rintro e w3 ⟨rfl,hb3⟩;have L3:=Hz (L2.o.trans (hb3.mono L2.o.size));have B3:=Hz (B2.o.below hb3);have X3:=Hz (X2.o.below hb3);clear hb3)
  | (refine Qj rfl 82 (.tmp 6) rfl w1.heap.size rfl X3.o Tryz.underlying82 rfl Qy ?_)
  | (refine Qq rfl 82 (.tmp 4) (.tmp 23) rfl w.heap.size rfl (pcs d la s0 s1) rfl B3.o rfl Qy (one_pcs _ _ _ _) ?_;intro w5 hB5 ho5))
 have q0:=hB5.o.cell (i:=0) rfl
 have q1:=hB5.o.cell (i:=1) rfl
 have q2:=hB5.o.cell (i:=2) rfl
 have q3:=hB5.o.cell (i:=3) rfl
 refine bodyPost_ret (v:=.tuple #[pval d la s0 s1,.int .i64 0]) (by simp [results,Tryz.results34,go_sem,q0,q1,q2,q3]) rfl ?_
 exact⟨rfl,ho5.o.below L3.o (Mr _) L3.o.size⟩
theorem qvh (zv:Value) (q ses x:Int) (hx:x≠0) (H:∀w',Bw w w'→Calls Tryz.prog 34 #[zv,.int .i64 q] w' (No w' x)) :
 Calls Tryz.prog 40 #[zv,.int .i64 q,.int .i64 ses] w (No w x):=by
 have HA:=Hz H
 have L0:=Hz (show Bw w (w.alloc (.cells pzs.toArray 82)) from (Mb _ _).alloc (Mr _) _)
 have B0:=Hz (Blk.new w 82 pzs)
 clear H
 go_enter Tryz.func40,Tryz.ntmps40
 go_wp2_with (first
  | (go_at_call 34;refine (HA.o _ L0.o).mono ?_;rintro e w1 ⟨rfl,hb1⟩;have L1:=Hz (L0.o.trans (hb1.mono L0.o.size));have B1:=Hz (B0.o.below hb1);have B2:=Hz (B1.o.alloc (.cells pzs.toArray 82));clear hb1)
  | (refine Qq rfl 82 (.tmp 6) (.tmp 20) rfl w.heap.size rfl pzs rfl B2.o rfl Qy Y2 ?_;intro w5 hB5 ho5))
 have q0:=hB5.o.cell (i:=0) rfl
 have q1:=hB5.o.cell (i:=1) rfl
 have q2:=hB5.o.cell (i:=2) rfl
 have q3:=hB5.o.cell (i:=3) rfl
 refine bodyPost_ret (v:=.tuple #[pzero,.int .i64 x]) (by simp [results,Tryz.results40,go_sem,q0,q1,q2,q3]) rfl ?_
 exact⟨rfl,ho5.o.below (L1.o.alloc L1.o.size _) (Mr _) (by have:=L1.o.size;rw [Ms];omega)⟩
theorem qvi (zv:Value) (q ses gs gz gh:Int) (d la s0 s1 y:Nat) (H:∀w',Bw w w'→Calls Tryz.prog 34 #[zv,.int .i64 q] w' (Is w' d la s0 s1))
 (H2:∀w',Bw w w'→Calls Tryz.prog 37 #[pval d la s0 s1] w' fun e w''=>e=.returned (.pointer (some ⟨y,0,none⟩))∧Bw w' w'')
 (H3:∀w',Bw w w'→Calls Tryz.prog 88 #[.pointer (some ⟨y,0,none⟩)] w' fun e w''=>e=.returned (.tuple #[.agg #[.int .i64 gs,.int .i64 gz,.int .i64 gh],.bool false])∧Bw w' w'') :
 Calls Tryz.prog 40 #[zv,.int .i64 q,.int .i64 ses] w (No w 16):=by
 have HA:=Hz H
 have HT:=Hz H2
 have HS:=Hz H3
 have L0:=Hz (show Bw w (w.alloc (.cells pzs.toArray 82)) from (Mb _ _).alloc (Mr _) _)
 have B0:=Hz (Blk.new w 82 pzs)
 clear H H2 H3
 go_enter Tryz.func40,Tryz.ntmps40
 go_wp2_with (first
  | (go_at_call 34;refine (HA.o _ L0.o).mono ?_;rintro e w1 ⟨rfl,hb1⟩;have L1:=Hz (L0.o.trans (hb1.mono L0.o.size));have B1:=Hz (B0.o.below hb1);have L2:=Hz (L1.o.alloc L1.o.size (.cells (pcs d la s0 s1).toArray 82));have B2:=Hz (B1.o.alloc (.cells (pcs d la s0 s1).toArray 82));have X2:=Hz (Blk.new w1 82 (pcs d la s0 s1));clear hb1)
  | (go_at_call 37;refine (HT.o _ L2.o).mono ?_;rintro e w3 ⟨rfl,hb3⟩;have L3:=Hz (L2.o.trans (hb3.mono L2.o.size));have B3:=Hz (B2.o.below hb3);have X3:=Hz (X2.o.below hb3);clear hb3)
  | (go_at_call 88;refine (HS.o _ L3.o).mono ?_;rintro e w4 ⟨rfl,hb4⟩;have L4:=Hz ((L3.o.trans (hb4.mono L3.o.size)).alloc (L3.o.trans (hb4.mono L3.o.size)).size (.cells #[.int .i64 gs,.int .i64 gz,.int .i64 gh] 87));have B4:=Hz ((B3.o.below hb4).alloc (.cells #[.int .i64 gs,.int .i64 gz,.int .i64 gh] 87));have X4:=Hz ((X3.o.below hb4).alloc (.cells #[.int .i64 gs,.int .i64 gz,.int .i64 gh] 87));clear hb4)
  | (refine Qj rfl 82 (.tmp 8) rfl w1.heap.size rfl X4.o Tryz.underlying82 rfl Qy ?_)
  | (refine Qq rfl 82 (.tmp 6) (.tmp 31) rfl w.heap.size rfl pzs rfl B4.o rfl Qy Y2 ?_;intro w5 hB5 ho5))
 have q0:=hB5.o.cell (i:=0) rfl
 have q1:=hB5.o.cell (i:=1) rfl
 have q2:=hB5.o.cell (i:=2) rfl
 have q3:=hB5.o.cell (i:=3) rfl
 refine bodyPost_ret (v:=.tuple #[pzero,.int .i64 16]) (by simp [results,Tryz.results40,go_sem,q0,q1,q2,q3]) rfl ?_
 exact⟨rfl,ho5.o.below L4.o (Mr _) L4.o.size⟩
theorem qvj (zv:Value) (q ses gs gz gh:Int) (d la s0 s1 y:Nat) (hne:gs≠ses) (H:∀w',Bw w w'→Calls Tryz.prog 34 #[zv,.int .i64 q] w' (Is w' d la s0 s1))
 (H2:∀w',Bw w w'→Calls Tryz.prog 37 #[pval d la s0 s1] w' fun e w''=>e=.returned (.pointer (some ⟨y,0,none⟩))∧Bw w' w'')
 (H3:∀w',Bw w w'→Calls Tryz.prog 88 #[.pointer (some ⟨y,0,none⟩)] w' fun e w''=>e=.returned (.tuple #[.agg #[.int .i64 gs,.int .i64 gz,.int .i64 gh],.bool true])∧Bw w' w'') :
 Calls Tryz.prog 40 #[zv,.int .i64 q,.int .i64 ses] w (No w 17):=by
 have HA:=Hz H
 have HT:=Hz H2
 have HS:=Hz H3
 have L0:=Hz (show Bw w (w.alloc (.cells pzs.toArray 82)) from (Mb _ _).alloc (Mr _) _)
 have B0:=Hz (Blk.new w 82 pzs)
 clear H H2 H3
 have hne2:(gs != ses)=true:=by simpa using hne
 go_enter Tryz.func40,Tryz.ntmps40
 go_wp2_with (first
  | (go_at_call 34;refine (HA.o _ L0.o).mono ?_;rintro e w1 ⟨rfl,hb1⟩;have L1:=Hz (L0.o.trans (hb1.mono L0.o.size));have B1:=Hz (B0.o.below hb1);have L2:=Hz (L1.o.alloc L1.o.size (.cells (pcs d la s0 s1).toArray 82));have B2:=Hz (B1.o.alloc (.cells (pcs d la s0 s1).toArray 82));have X2:=Hz (Blk.new w1 82 (pcs d la s0 s1));clear hb1)
  | (go_at_call 37;refine (HT.o _ L2.o).mono ?_;rintro e w3 ⟨rfl,hb3⟩;have L3:=Hz (L2.o.trans (hb3.mono L2.o.size));have B3:=Hz (B2.o.below hb3);have X3:=Hz (X2.o.below hb3);clear hb3)
  | (go_at_call 88;refine (HS.o _ L3.o).mono ?_;rintro e w4 ⟨rfl,hb4⟩;have L4:=Hz ((L3.o.trans (hb4.mono L3.o.size)).alloc (L3.o.trans (hb4.mono L3.o.size)).size (.cells #[.int .i64 gs,.int .i64 gz,.int .i64 gh] 87));have B4:=Hz ((B3.o.below hb4).alloc (.cells #[.int .i64 gs,.int .i64 gz,.int .i64 gh] 87));have X4:=Hz ((X3.o.below hb4).alloc (.cells #[.int .i64 gs,.int .i64 gz,.int .i64 gh] 87));clear hb4)
  | (refine Qj rfl 82 (.tmp 8) rfl w1.heap.size rfl X4.o Tryz.underlying82 rfl Qy ?_)
  | (refine Qq rfl 82 (.tmp 6) (.tmp 37) rfl w.heap.size rfl pzs rfl B4.o rfl Qy Y2 ?_;intro w5 hB5 ho5))
 have q0:=hB5.o.cell (i:=0) rfl
 have q1:=hB5.o.cell (i:=1) rfl
 have q2:=hB5.o.cell (i:=2) rfl
 have q3:=hB5.o.cell (i:=3) rfl
 refine bodyPost_ret (v:=.tuple #[pzero,.int .i64 17]) (by simp [results,Tryz.results40,go_sem,q0,q1,q2,q3]) rfl ?_
 exact⟨rfl,ho5.o.below L4.o (Mr _) L4.o.size⟩
theorem qvk (zv:Value) (q ses gs gz gh:Int) (d la s0 s1 y:Nat) (he:gs=ses) (H:∀w',Bw w w'→Calls Tryz.prog 34 #[zv,.int .i64 q] w' (Is w' d la s0 s1))
 (H2:∀w',Bw w w'→Calls Tryz.prog 37 #[pval d la s0 s1] w' fun e w''=>e=.returned (.pointer (some ⟨y,0,none⟩))∧Bw w' w'')
 (H3:∀w',Bw w w'→Calls Tryz.prog 88 #[.pointer (some ⟨y,0,none⟩)] w' fun e w''=>e=.returned (.tuple #[.agg #[.int .i64 gs,.int .i64 gz,.int .i64 gh],.bool true])∧Bw w' w'') :
 Calls Tryz.prog 40 #[zv,.int .i64 q,.int .i64 ses] w (Is w d la s0 s1):=by
 have HA:=Hz H
 have HT:=Hz H2
 have HS:=Hz H3
 have L0:=Hz (show Bw w (w.alloc (.cells pzs.toArray 82)) from (Mb _ _).alloc (Mr _) _)
 have B0:=Hz (Blk.new w 82 pzs)
 clear H H2 H3
 subst he
 go_enter Tryz.func40,Tryz.ntmps40
 go_wp2_with (first
  | (go_at_call 34;refine (HA.o _ L0.o).mono ?_;rintro e w1 ⟨rfl,hb1⟩;have L1:=Hz (L0.o.trans (hb1.mono L0.o.size));have B1:=Hz (B0.o.below hb1);have L2:=Hz (L1.o.alloc L1.o.size (.cells (pcs d la s0 s1).toArray 82));have B2:=Hz (B1.o.alloc (.cells (pcs d la s0 s1).toArray 82));have X2:=Hz (Blk.new w1 82 (pcs d la s0 s1));clear hb1)
  | (go_at_call 37;refine (HT.o _ L2.o).mono ?_;rintro e w3 ⟨rfl,hb3⟩;have L3:=Hz (L2.o.trans (hb3.mono L2.o.size));have B3:=Hz (B2.o.below hb3);have X3:=Hz (X2.o.below hb3);clear hb3)
  | (go_at_call 88;refine (HS.o _ L3.o).mono ?_;rintro e w4 ⟨rfl,hb4⟩;have L4:=Hz ((L3.o.trans (hb4.mono L3.o.size)).alloc (L3.o.trans (hb4.mono L3.o.size)).size (.cells #[.int .i64 gs,.int .i64 gz,.int .i64 gh] 87));have B4:=Hz ((B3.o.below hb4).alloc (.cells #[.int .i64 gs,.int .i64 gz,.int .i64 gh] 87));have X4:=Hz ((X3.o.below hb4).alloc (.cells #[.int .i64 gs,.int .i64 gz,.int .i64 gh] 87));clear hb4)
  | (refine Qj rfl 82 (.tmp 8) rfl w1.heap.size rfl X4.o Tryz.underlying82 rfl Qy ?_)
  | (refine Qq rfl 82 (.tmp 6) (.tmp 38) rfl w.heap.size rfl (pcs d la s0 s1) rfl B4.o rfl Qy (one_pcs _ _ _ _) ?_;intro w5 hB5 ho5))
 have q0:=hB5.o.cell (i:=0) rfl
 have q1:=hB5.o.cell (i:=1) rfl
 have q2:=hB5.o.cell (i:=2) rfl
 have q3:=hB5.o.cell (i:=3) rfl
 refine bodyPost_ret (v:=.tuple #[pval d la s0 s1,.int .i64 0]) (by simp [results,Tryz.results40,go_sem,q0,q1,q2,q3]) rfl ?_
 exact⟨rfl,ho5.o.below L4.o (Mr _) L4.o.size⟩
end
end StoN
namespace CmtN
open Mem DskA DskD RecM CmtM
open RecA (rval rcells rok)
theorem one_zer:∀u ∈ zer,u.oneCell'=true:=one_two Rc.none Rc.none
section
variable {w:World} {F J:Nat→Prop} {a g:Nat} {s:St} {l:Lg}
theorem qvl (hD:Dk w F g s) (h:Lm w J a g l) (hp:l.p≤3) (hf:10*l.p+2≤s.S.length) (hd:s.down=true) :
 Calls Tryz.prog 118 #[.pointer (some ⟨a,0,none⟩)] w fun e w'=>e=.returned (.tuple #[.agg #[.int .i64 0,.int .i64 0,.int .i64 0,.int .i64 0,.int .i64 0,.int .i64 0,.int .i64 0,.int .i64 0,.int .i64 0,.int .i64 0,.int .i64 0,.int .i64 0],.int .i64 8])∧Bw w w':=by
 obtain⟨c0,c1,_,_⟩:=h.cells
 have hal:=h.blk.lt
 have H:=Hz h
 have HP3:=Hz hp
 have HRD:=Hz (fun w' (hb:Bw w w')=>read_down F g s ((10*l.p+0:Nat):Int) w' (hD.below hb) (by simp [inB];omega) hd)
 clear hD h hp hf hd
 have L0:=Hz (show Bw w ((w.alloc (.cells zer.toArray 206)).alloc (.cells zer.toArray 206)) from ((Mb _ _).alloc (Mr _) _).alloc (by rw [Ms];omega) _)
 have B0:=Hz (show Blk ((w.alloc (.cells zer.toArray 206)).alloc (.cells zer.toArray 206)) w.heap.size 206 zer from (Blk.new w _ _).alloc _)
 go_enter Tryz.func118,Tryz.ntmps118
 go_wp2
 obtain⟨w0,hw0⟩:∃w0,w0=(w.alloc (.cells zer.toArray 206)).alloc (.cells zer.toArray 206):=⟨_,rfl⟩
 rw [←hw0] at L0 B0
 have hw0':(w.alloc (.cells #[.int .i64 0,.int .i64 0,.int .i64 0,.int .i64 0,.int .i64 0,.int .i64 0,.int .i64 0,.int .i64 0,.int .i64 0,.int .i64 0,.int .i64 0,.int .i64 0] 206)).alloc (.cells #[.int .i64 0,.int .i64 0,.int .i64 0,.int .i64 0,.int .i64 0,.int .i64 0,.int .i64 0,.int .i64 0,.int .i64 0,.int .i64 0,.int .i64 0,.int .i64 0] 206)=w0:=hw0.symm
 rw [hw0']
 clear hw0 hw0'
 go_loopw [10] (fun i wr=>i=.int .i64 0∧Hid (Bw w wr)∧Hid (Blk wr w.heap.size 206 zer)) (fun _ _=>0)
 case atStart=>exact⟨rfl,L0,B0⟩
 case round=>
  obtain⟨rfl,HL,HB⟩:=hrel
  have HS:=Hz (sector_any ((H.o.below HL.o).below ((Mb wr.heap.size wr).drew)) HP3.o (i:=0) (by omega))
  obtain⟨q,hq⟩:∃q,q=10*l.p+0:=⟨_,rfl⟩
  rw [←hq] at HS HRD
  have d0:=(HL.o.cell (p:=⟨a,0,none⟩) hal).trans c0
  have hal':a<wr.heap.size:=Mw hal HL.o.size
  clear hq c0 c1
  go_wp2_with fail
  go_region_held3 (fun w'=>w'.cell? ⟨a,0,none⟩=some (.pointer (some ⟨g,0,none⟩)))
   (first
    | go_keep
    | (rw [hb1.cell (by simpa using hal')];assumption))
   ((first
     | (have hq:=HB1;clear hq;go_at_call 27;refine (HRD.o _ HB1.o).mono ?_;rintro e w2 ⟨rfl,rfl⟩)
     | (go_at_call 147;refine HS.o.mono ?_;rintro e w1 ⟨rfl,hb1⟩;have HB1:=Hz (show Bw w w1 from HL.o.trans ((((Mb wr.heap.size wr).drew).trans hb1).mono HL.o.size));have HX1:=Hz (HB.o.below (((Mb wr.heap.size wr).drew).trans hb1)))))
  have LX:=Hz HB1.o
  have BX:=Hz HX1.o
  go_wp2_with (refine Qq rfl 206 (.tmp 2) (.tmp 26) rfl w.heap.size rfl zer rfl BX.o rfl Yu one_zer ?_;intro w5 hB5 ho5)
  have e0:=hB5.o.cell (i:=0) rfl
  have e1:=hB5.o.cell (i:=1) rfl
  have e2:=hB5.o.cell (i:=2) rfl
  have e3:=hB5.o.cell (i:=3) rfl
  have e4:=hB5.o.cell (i:=4) rfl
  have e5:=hB5.o.cell (i:=5) rfl
  have e6:=hB5.o.cell (i:=6) rfl
  have e7:=hB5.o.cell (i:=7) rfl
  have e8:=hB5.o.cell (i:=8) rfl
  have e9:=hB5.o.cell (i:=9) rfl
  have ea:=hB5.o.cell (i:=10) rfl
  have eb:=hB5.o.cell (i:=11) rfl
  refine bodyPost_ret (v:=.tuple #[.agg #[.int .i64 0,.int .i64 0,.int .i64 0,.int .i64 0,.int .i64 0,.int .i64 0,.int .i64 0,.int .i64 0,.int .i64 0,.int .i64 0,.int .i64 0,.int .i64 0],.int .i64 8]) (by simp [results,Tryz.results118,go_sem,Rc.none,e0,e1,e2,e3,e4,e5,e6,e7,e8,e9,ea,eb]) rfl ?_
  exact⟨rfl,ho5.o.below LX.o (Mr _) LX.o.size⟩
end
theorem qvm (F:Nat→Prop) (g:Nat) (s:St) (p:Nat) (w:World) (hD:Dk w F g s) (hp:p≤3) (hf:10*p+2≤s.S.length) (hd:s.down=true) :
 Calls Tryz.prog 78 #[.pointer (some ⟨g,0,none⟩),.int .i64 (p:Nat)] w fun e w'=>e=.returned (.tuple #[.pointer none,.int .i64 8])∧Bw w w':=by
 have H1:=Hz (logOf_any F g s p w hD hp hf)
 have H2:=Hz (fun (w':World) a (hb':Bw w w') (h:Lm w' (fun i=>i=a) a g ⟨p,Rc.none,0⟩)=>qvl (hD.below hb') h hp hf hd)
 clear hD hp hf hd
 go_enter Tryz.func78,Tryz.ntmps78
 go_wp2_with (first
  | (go_at_call 117;refine H1.o.mono ?_;rintro e w1 ⟨a,rfl,ha,hlm,hb1⟩;have L1:=Hz hb1;have HM1:=Hz hlm;clear hb1 ha hlm)
  | (go_at_call 118;refine (H2.o w1 a L1.o HM1.o).mono ?_;rintro e w2 ⟨rfl,hb2⟩;have L2:=Hz (L1.o.trans (hb2.mono L1.o.size));clear hb2))
 go_ret2
 exact⟨rfl,L2.o.alloc L2.o.size _⟩
end CmtN
end Go.Proofs.YtecncggeomcdbaaGreatDoor
