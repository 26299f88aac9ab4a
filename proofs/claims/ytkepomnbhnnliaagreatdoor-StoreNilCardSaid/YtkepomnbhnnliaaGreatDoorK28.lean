/- The parts that this claim uses of: StgN7 · StgN8 · StgN · StgJ · StoMk · StoLd0 · StoLd1 · CmtQ · CmtN0 · CmtN1 · CmtN2. Conditions: those that each law names. -/
import Derived.Test.YtkepomnbhnnliaaGreatDoorK27
set_option maxRecDepth 100000
set_option maxHeartbeats 12800000
namespace Go.Proofs.YtkepomnbhnnliaaGreatDoor
namespace StgN
open Go.RowKit Kit Byt Mem DskA DskC DskD DskE DskF RecM StgM
open RecA (sval scells sok n64)
open BitM (hb pw)
open BitB (wv)
theorem block_at {k:Nat} (hk:k≤9) (w:World):Calls Tryz.prog 122 #[.int .i64 (k:Nat)] w fun e w'=>e=.returned (.tuple #[.int .i64 ((k/4:Nat):Int),.int .i64 ((16*(k%4):Nat):Int),.bool true])∧Below w.heap.size w w':=by
 have h:=PlaN.block_any (k:Int) w (n64_nat (by omega))
 rw [show PlaN.bi (k:Int)=((k/4:Nat):Int) from by unfold PlaN.bi;rw [if_pos (by omega)];omega,show PlaN.bf (k:Int)=((16*(k%4):Nat):Int) from by unfold PlaN.bf;rw [if_pos (by omega)];omega,show PlaN.bb (k:Int)=true from by unfold PlaN.bb;exact decide_eq_true_iff.2 (by omega)] at h
 exact h
theorem img_no {w w':World} {s:St} {i:Nat} {e:Ending} (hd:s.down=true) (h:Img w s i e w'):Below w.heap.size w w'∧∃A n,e=.returned (.tuple #[.agg #[.int .i64 (i:Int),.slice A n n],.int .i64 8]):=by
 obtain⟨h1,A,n,h2,_⟩:=h
 rw [if_pos hd] at h2
 exact⟨h1,A,n,h2⟩
theorem img_yes {w w':World} {s:St} {i:Nat} {e:Ending} (hd:s.down=false) (h:Img w s i e w'):Below w.heap.size w w'∧∃b,e=.returned (.tuple #[.agg #[.int .i64 (i:Int),.slice (some ⟨b,0,none⟩) 64 64],.int .i64 0])∧Blk w' b 5 (u8n (now s i))∧w.heap.size≤b∧(now s i).length=64:=by
 obtain⟨h1,A,n,h2,h3⟩:=h
 rw [if_neg (by rw [hd];simp)] at h2
 obtain⟨rfl,h4⟩:=h3.out hd
 obtain⟨b,rfl,_⟩:=DskB.own_some h4 (by omega)
 have hl:=h4.1
 rw [u8n_len] at hl
 exact⟨h1,b,h2,(blk_of_own h4).1,(blk_of_own h4).2,by omega⟩
theorem put_tell {w w4:World} {F J:Nat→Prop} {g a:Nat} {s:St} {t:Slt} (h:DS w F J g a s t) (L4:Below w.heap.size w w4) {b:Nat} {sb:List Nat} (HB4:Blk w4 b 5 (u8n sb)) (hb:w.heap.size≤b) (hl:sb.length=64) {u:Nat} (hu:u<s.S.length) {nx:Sg} (hk:sok nx) (hr:nx.right) (o:Obj) :
 Calls Tryz.prog 119 #[.pointer (some ⟨a,0,none⟩),sval nx,.slice (some ⟨w4.heap.size+1,0,none⟩) 1 1] ((w4.alloc o).alloc (.cells #[.int .i64 (u:Nat),.slice (some ⟨b,0,none⟩) 64 64] 192)) (Sgo F J g a w (.int .i64 (pQ s [(u,sb),(t.at_,shut nx.bytes)]).2) (pQ s [(u,sb),(t.at_,shut nx.bytes)]).1 (became t true nx (pQ s [(u,sb),(t.at_,shut nx.bytes)]).2)):=by
 have hs4:=L4.size
 have L5:Below w.heap.size w (w4.alloc o):=L4.alloc L4.size o
 have L6:=L5.alloc L5.size (.cells #[.int .i64 (u:Nat),.slice (some ⟨b,0,none⟩) 64 64] 192)
 have hB6:=(HB4.alloc o).alloc (.cells #[.int .i64 (u:Nat),.slice (some ⟨b,0,none⟩) 64 64] 192)
 have hS6:=Blk.new (w4.alloc o) 192 (stepc u (some ⟨b,0,none⟩) 64 64)
 have hz:(w4.alloc o).heap.size=w4.heap.size+1:=World.size_alloc _ _
 rw [hz] at hS6
 have hlt:=h.lt
 have hbl:=HB4.lt
 have hown:((w4.alloc o).alloc (.cells #[.int .i64 (u:Nat),.slice (some ⟨b,0,none⟩) 64 64] 192)).ownsRow w.heap.size 192 2 (.slice (some ⟨w4.heap.size+1,0,none⟩) 1 1) 1 (stc [⟨u,some ⟨b,0,none⟩,64,sb⟩]):=
  ⟨rfl,.inr ⟨w4.heap.size+1,1,_,rfl,by omega,hS6,by omega,by unfold maxLen;omega,rfl,rfl⟩⟩
 exact tell_any L6 h nx hk hr _ 1 1 [⟨u,some ⟨b,0,none⟩,64,sb⟩] (by omega) hown (fun e he=>by
  rw [List.mem_singleton.1 he]
  refine⟨⟨blk_rd hB6 hl (by omega),fun q o' hA hF=>?_,hu⟩,fun q o' hA=>⟨fun hJ=>?_,fun e'=>?_⟩⟩
  ·have h1:=hlt q (.inl hF)
   injection hA with hA
   injection hA with hA _
   omega
  ·have h1:=hlt q (.inr hJ)
   injection hA with hA
   injection hA with hA _
   omega
  ·injection hA with hA
   injection hA with hA _
   have e2:w4.heap.size+1=q:=by
    have:some (w4.heap.size+1)=some q:=e'
    injection this
   omega)
section
variable {F J:Nat→Prop} {g a:Nat} {s:St} {t:Slt} {D:Option Addr} {d k:Nat} {xs:List Nat} {w:World}
theorem put_dead (h:DS w F J g a s t) (hg:t.g.right) (_hm:xs.length=16) (h1:t.has=true) (hk:k<blocks t.g.z) (h5:hb t.g.h k=false) (hd:s.down=true) :
 Calls Tryz.prog 69 #[.pointer (some ⟨a,0,none⟩),.int .i64 t.g.s,.int .i64 (k:Nat),.slice D 16 d] w (Sgo F J g a w (.int .i64 8) s t):=by
 have hk10:k≤9:=by have:=blocks_10 hg.2.1.2;omega
 obtain⟨_,_,_,c3,c4,c5⟩:=h.sm.cells
 have HS:=Hz (show Calls Tryz.prog 120 #[.pointer (some ⟨a,0,none⟩)] w fun e w'=>e=.returned (.bool true)∧w=w' from by have:=staged_any h.sm;rw [h1] at this;exact this)
 have HB:=Hz (fun w'=>RecG.blocks_any t.g.z w' h.sm.ok.z)
 have HH:=Hz (show ∀w',Calls Tryz.prog 121 #[.int .i64 t.g.h,.int .i64 (k:Nat)] w' fun e w''=>e=.returned (.bool false)∧w'=w'' from fun w'=>by have:=BitO.has_any t.g.h k w';rw [h5] at this;exact this)
 have HP:=Hz (fun w'=>block_at hk10 w')
 have HIM:=Hz (fun w' (hb:Below w.heap.size w w')=>(image_any (h.below hb) (k/4) (by omega)).mono fun _ _=>img_no hd)
 have H:=Hz h
 obtain⟨gs,hgs⟩:∃gs,gs=t.g.s:=⟨_,rfl⟩
 obtain⟨gz,hgz⟩:∃gz,gz=t.g.z:=⟨_,rfl⟩
 obtain⟨gh,hgh⟩:∃gh,gh=t.g.h:=⟨_,rfl⟩
 obtain⟨B,hB⟩:∃B,B=blocks t.g.z:=⟨_,rfl⟩
 obtain⟨q,hq⟩:∃q,q=k/4:=⟨_,rfl⟩
 obtain⟨o,ho⟩:∃o,o=16*(k%4):=⟨_,rfl⟩
 rw [←hq] at HP HIM
 rw [←ho] at HP
 rw [←hB] at HB hk
 rw [←hgz] at HB c4
 rw [←hgs] at c3 ⊢
 rw [←hgh] at c5 HH
 have h30 : ¬((k:Int)<0):=by omega
 have h31 : ¬((B:Int)≤(k:Int)):=by omega
 clear h hg _hm h1 h5 hd hgs hgz hgh hB hq ho hk
 go_enter Tryz.func69,Tryz.ntmps69
 go_wp2_with (first
  | (go_at_call 120;refine HS.out.mono ?_;rintro e w1 ⟨rfl,rfl⟩)
  | (go_at_call 115;refine (HB.out _).mono ?_;rintro e w1 ⟨rfl,rfl⟩)
  | (go_at_call 121;refine (HH.out _).mono ?_;rintro e w1 ⟨rfl,rfl⟩)
  | (go_at_call 122;refine (HP.out _).mono ?_;rintro e w1 ⟨rfl,hb1⟩;have L1:=Hz hb1;clear hb1)
  | (go_at_call 123;refine (HIM.out _ L1.out).mono ?_;rintro e w2 ⟨hb2,A,n,rfl⟩;have L2:=Hz (L1.out.trans (hb2.mono L1.out.size));clear hb2))
 go_ret
 have L3:=L2.out.alloc L2.out.size (.cells #[.int .i64 (t.dat q:Nat),.slice A n n] 192)
 exact Sgo.disk H.out (H.out.dk.below L3) (Keep.of_below L3) fun i hi=>.inl hi
theorem put_live (h:DS w F J g a s t) (hg:t.g.right) (hR:Rd w D 16 d (u8n xs)) (h1:t.has=true) (hk:k<blocks t.g.z) (h5:hb t.g.h k=false) (hd:s.down=false) :
 Calls Tryz.prog 69 #[.pointer (some ⟨a,0,none⟩),.int .i64 t.g.s,.int .i64 (k:Nat),.slice D 16 d] w (Sgo F J g a w (.int .i64 (pP s t t.g.s k xs).2.2) (pP s t t.g.s k xs).1 (pP s t t.g.s k xs).2.1):=by
 have hm:xs.length=16:=Rd.nats hR
 have hk10:k≤9:=by have:=blocks_10 hg.2.1.2;omega
 obtain⟨_,_,_,c3,c4,c5⟩:=h.sm.cells
 have HS:=Hz (show Calls Tryz.prog 120 #[.pointer (some ⟨a,0,none⟩)] w fun e w'=>e=.returned (.bool true)∧w=w' from by have:=staged_any h.sm;rw [h1] at this;exact this)
 have HB:=Hz (fun w'=>RecG.blocks_any t.g.z w' h.sm.ok.z)
 have HH:=Hz (show ∀w',Calls Tryz.prog 121 #[.int .i64 t.g.h,.int .i64 (k:Nat)] w' fun e w''=>e=.returned (.bool false)∧w'=w'' from fun w'=>by have:=BitO.has_any t.g.h k w';rw [h5] at this;exact this)
 have HP:=Hz (fun w'=>block_at hk10 w')
 have HIM:=Hz (fun w' (hb:Below w.heap.size w w')=>(image_any (h.below hb) (k/4) (by omega)).mono fun _ _=>img_yes hd)
 have HWI:=Hz (fun w'=>BitO.with_any t.g.h k w' h.sm.ok.h)
 have HRD:=Hz hR
 have HXL:=Hz hm
 have H:=Hz h
 have HPP:=Hz (pP_eq (s:=s) (t:=t) (n:=t.g.s) (no:=(k:Int)) (d:=xs) h1 rfl ⟨by omega,by omega⟩ hm h5)
 have HMR:=Hz (more_right hg hk h5)
 obtain⟨R,hRR⟩:∃R,R=pP s t t.g.s k xs:=⟨_,rfl⟩
 rw [←hRR] at HPP ⊢
 clear hRR
 obtain⟨mg,hmg⟩:∃mg,mg=more t.g k:=⟨_,rfl⟩
 rw [←hmg] at HPP HMR
 have HMG:=Hz (show mg=⟨t.g.s,t.g.z,wv t.g.h k⟩ from hmg)
 obtain⟨gs,hgs⟩:∃gs,gs=t.g.s:=⟨_,rfl⟩
 obtain⟨gz,hgz⟩:∃gz,gz=t.g.z:=⟨_,rfl⟩
 obtain⟨gh,hgh⟩:∃gh,gh=t.g.h:=⟨_,rfl⟩
 obtain⟨B,hB⟩:∃B,B=blocks t.g.z:=⟨_,rfl⟩
 obtain⟨q,hq⟩:∃q,q=k/4:=⟨_,rfl⟩
 obtain⟨o,ho⟩:∃o,o=16*(k%4):=⟨_,rfl⟩
 rw [←hq] at HP HIM
 rw [←ho] at HP
 rw [←hB] at HB hk
 rw [←hgz] at HB c4 HMG
 rw [←hgs] at c3 HMG ⊢
 rw [←hgh] at c5 HH HWI HMG
 obtain⟨gv,hgv⟩:∃gv,gv=wv gh k:=⟨_,rfl⟩
 rw [←hgv] at HWI HMG
 have HEQ:=Hz (And.intro hgs (And.intro hgz hgh))
 have HQO:=Hz (show q=k/4∧o=16*(k%4) from⟨hq,ho⟩)
 have ho48:(o:Int)≤48:=by omega
 have h30 : ¬((k:Int)<0):=by omega
 have h31 : ¬((B:Int)≤(k:Int)):=by omega
 obtain⟨u,hu⟩:∃u,u=t.dat q:=⟨_,rfl⟩
 rw [←hu] at HIM
 have HU:=Hz hu
 obtain⟨nb,hnb⟩:∃nb,nb=now s u:=⟨_,rfl⟩
 rw [←hnb] at HIM
 have HNB:=Hz hnb
 have HTL:=Hz (show ∀(w4:World) (b:Nat),Below w.heap.size w w4→Blk w4 b 5 (u8n (into nb o xs))→(w.heap.size≤b∧nb.length=64)→∀ob:Obj,Calls Tryz.prog 119 #[.pointer (some ⟨a,0,none⟩),.agg #[.int .i64 gs,.int .i64 gz,.int .i64 gv],.slice (some ⟨w4.heap.size+1,0,none⟩) 1 1] ((w4.alloc ob).alloc (.cells #[.int .i64 (u:Nat),.slice (some ⟨b,0,none⟩) 64 64] 192)) (Sgo F J g a w (.int .i64 R.2.2) R.1 R.2.1) from fun w4 b h4 hB4 hbb ob=>by
  have hf:=h.fits
  have hT:=put_tell h h4 hB4 hbb.1 (StgP.into_len hbb.2 (by omega) hm) (u:=u) (by rw [hu,hq];unfold Slt.dat;omega) (nx:=mg) (right_ok HMR.out) HMR.out ob
  have e:sect s t (k:Int).toNat xs=into nb o xs:=by
   unfold sect
   rw [show (k:Int).toNat=k from by omega,←hq,←ho,hnb,hu]
  rw [HPP.out,e,show (k:Int).toNat=k from by omega,←hq,←hu]
  rw [HMG.out] at hT ⊢
  exact hT)
 clear h hg hm hR h1 h5 hd hgs hgz hgh hB hq ho hk hmg hgv hu hnb hk10
 go_enter Tryz.func69,Tryz.ntmps69
 go_wp2_with (first
  | (go_at_call 120;refine HS.out.mono ?_;rintro e w1 ⟨rfl,rfl⟩)
  | (go_at_call 115;refine (HB.out _).mono ?_;rintro e w1 ⟨rfl,rfl⟩)
  | (go_at_call 121;refine (HH.out _).mono ?_;rintro e w1 ⟨rfl,rfl⟩)
  | (go_at_call 122;refine (HP.out _).mono ?_;rintro e w1 ⟨rfl,hb1⟩;have L1:=Hz hb1;clear hb1)
  | (go_at_call 123;refine (HIM.out _ L1.out).mono ?_;rintro e w2 ⟨hb2,b,rfl,hB2,hbb,hl2⟩;have L2:=L1.out.trans (hb2.mono L1.out.size);have L3:=Hz (L2.alloc L2.size (.cells #[.int .i64 (u:Nat),.slice (some ⟨b,0,none⟩) 64 64] 192));have HB3:=Hz (hB2.alloc (.cells #[.int .i64 (u:Nat),.slice (some ⟨b,0,none⟩) 64 64] 192));have HR3:=Hz (HRD.out.below L3.out);have HBB:=Hz (show w.heap.size≤b∧b<w2.heap.size∧nb.length=64 from⟨Nat.le_trans L1.out.size hbb,hB2.lt,hl2⟩);have HS3:=Hz (Blk.new w2 192 (stepc u (some ⟨b,0,none⟩) 64 64));clear hb2 hB2 hbb hl2 L2)
  | (refine wpList_copy_part rfl (.tmp 73) (.tmp 74) 52 52 rfl 5 Tryz.underlying52 DskB.size8 b o (64-o) (64-o) rfl rfl HR3.out (u8n_one _) HB3.out (by rw [u8n_len,HBB.out.2.2];omega) ?_;intro w4 m hm hB4 ho4;obtain rfl:m=16:=(by have:=hm.out;omega);have L4:=Hz (ho4.out.below L3.out HBB.out.1 L3.out.size);have HB4:=Hz (show Blk w4 b 5 (u8n (into nb o xs)) from into_splice HXL.out▸hB4.out);have HS4:=Hz (ho4.out.blk HS3.out (by have:=HBB.out.2.1;omega));obtain⟨_,_,_,c3',c4',c5'⟩:=(H.out.sm.below L4.out).cells;have hal:=(H.out.sm.below L4.out).blk.lt;obtain⟨e1,e2,e3⟩:=HEQ.out;rw [←e1] at c3';rw [←e2] at c4';rw [←e3] at c5';have s0:w4.cell? ⟨w2.heap.size,0,none⟩=some (.int .i64 (u:Nat)):=HS4.out.cell rfl;have s1:w4.cell? ⟨w2.heap.size,1,none⟩=some (.slice (some ⟨b,0,none⟩) 64 64):=HS4.out.cell rfl;have h24:=HS4.out.lt;clear e1 e2 e3 c3 c4 c5 hm hB4 ho4 HB3 HR3 HS3)
  | (go_at_call 124;refine (HWI.out _).mono ?_;rintro e w5 ⟨rfl,rfl⟩)
  | (go_at_call 119;refine (HTL.out w4 b L4.out HB4.out ⟨HBB.out.1,HBB.out.2.2⟩ _).mono ?_;rintro e w6 ⟨rfl,hgo⟩;have HGO:=Hz hgo;clear hgo))
 go_ret
 exact⟨rfl,HGO.out⟩
end
theorem put_any (F J:Nat→Prop) (g a:Nat) (s:St) (t:Slt) (n no:Int) (D:Option Addr) (m d:Nat) (xs:List Nat) (w:World) (h:DS w F J g a s t) (_:n64 n) (hno:n64 no) (hg:t.has=true→t.g.right) (hR:Rd w D m d (u8n xs)) (_:byt xs) (_:∀b o,D=some ⟨b,o,none⟩→¬F b∧¬J b) :
 Calls Tryz.prog 69 #[.pointer (some ⟨a,0,none⟩),.int .i64 n,.int .i64 no,.slice D m d] w (Sgo F J g a w (.int .i64 (pP s t n no xs).2.2) (pP s t n no xs).1 (pP s t n no xs).2.1):=by
 have hm:xs.length=m:=Rd.nats hR
 have early:(t.has=false∨(t.has=true∧n≠t.g.s)∨(t.has=true∧n=t.g.s∧(no<0∨(blocks t.g.z:Int)≤no))∨(t.has=true∧n=t.g.s∧¬(no<0∨(blocks t.g.z:Int)≤no)∧m≠16)∨(t.has=true∧n=t.g.s∧¬(no<0∨(blocks t.g.z:Int)≤no)∧m=16∧hb t.g.h no=true))→
  Calls Tryz.prog 69 #[.pointer (some ⟨a,0,none⟩),.int .i64 n,.int .i64 no,.slice D m d] w (Sgo F J g a w (.int .i64 (pP s t n no xs).2.2) (pP s t n no xs).1 (pP s t n no xs).2.1):=fun hc=>
  (put_early (D:=D) (d:=d) h hno hm hc).mono fun e w' he=>by
    obtain⟨rfl,h2,rfl⟩:=he
    have e1:(pP s t n no xs).1=s:=by rw [h2]
    have e2:(pP s t n no xs).2.1=t:=by rw [h2]
    rw [e1,e2]
    exact Sgo.disk h h.dk (Keep.refl _ _) fun i hi=>.inl hi
 cases h1:t.has with
 | false=>exact early (.inl h1)
 | true=>
   by_cases h2:n=t.g.s
   ·by_cases h3:no<0∨(blocks t.g.z:Int)≤no
    ·exact early (.inr (.inr (.inl ⟨h1,h2,h3⟩)))
    ·by_cases h4:m=16
     ·cases h5:hb t.g.h no with
      | true=>exact early (.inr (.inr (.inr (.inr ⟨h1,h2,h3,h4,h5⟩))))
      | false=>
        obtain⟨k,rfl⟩:∃k:Nat,no=k:=⟨no.toNat,by omega⟩
        subst h2 h4
        cases hd:s.down with
        | true=>
          rw [pP_down h1 rfl ⟨by omega,by omega⟩ hm h5 hd]
          exact put_dead h (hg h1) hm h1 (by omega) h5 hd
        | false=>exact put_live h (hg h1) hR h1 (by omega) h5 hd
     ·exact early (.inr (.inr (.inr (.inl ⟨h1,h2,h3,h4⟩))))
   ·exact early (.inr (.inl ⟨h1,h2⟩))
end StgN
namespace StgN
open Go.RowKit Kit Byt Mem DskA DskC DskD DskE DskF RecM StgM
open RecA (sval scells sok n64)
open BitA (miss lim)
def acc (s:St) (t:Slt):Nat→List Nat
 | 0=>[]
 | k+1=>acc s t k++now s (t.dat k)
theorem acc_three (s:St) (t:Slt):acc s t 3=now s (t.dat 0)++(now s (t.dat 1)++now s (t.dat 2)):=by simp [acc]
theorem acc_take (s:St) (t:Slt) {k z:Nat} (hk:k≤3) (hz:z≤(acc s t k).length):(acc s t 3).take z=(acc s t k).take z:=by
 have:∀m,∃r,acc s t (k+m)=acc s t k++r:=by
  intro m
  induction m with
  | zero=>exact⟨[],by simp⟩
  | succ m ih=>
    obtain⟨r,hr⟩:=ih
    exact⟨r++now s (t.dat (k+m)),by rw [←Nat.add_assoc,acc,hr,List.append_assoc]⟩
 obtain⟨r,hr⟩:=this (3-k)
 rw [show k+(3-k)=3 from by omega] at hr
 rw [hr,List.take_append_of_le_length hz]
theorem lim_blocks {z:Int} (h:z≤160):lim (blocks z:Int)=blocks z:=BitC.lim_nat (by have:=blocks_10 h;omega)
def Ys (w:World) (s:St) (t:Slt) (e:Ending) (w':World):Prop:=
 ∃B m d,e=.returned (.tuple #[.slice B m d,.int .i64 (pY s t).2])∧Rd w' B m d (u8n (pY s t).1)∧Below w.heap.size w w'∧(∀q o,B=some ⟨q,o,none⟩→w.heap.size≤q)
theorem Ys.empty {w w':World} {s:St} {t:Slt} {e:Int} (h:pY s t=([],e)) (hb:Below w.heap.size w w'):Ys w s t (.returned (.tuple #[.slice none 0 0,.int .i64 e])) w':=by
 refine⟨none,0,0,by rw [h],?_,hb,fun q o h=>by cases h⟩
 rw [h]
 exact Rd.nil w'
theorem Rd.few {w:World} {A:Option Addr} {n z c:Nat} {xs:List Nat} (h:Rd w A n c (u8n xs)) (hz:z≤n):Rd w A z c (u8n (xs.take z)):=by
 have hl:xs.length=n:=Rd.nats h
 refine⟨by rw [u8n_len,List.length_take];omega,by have:=h.2.1;omega,h.2.2.1,fun hp=>?_⟩
 obtain⟨b,o,hA,hb,hj⟩:=h.2.2.2 (by omega)
 refine⟨b,o,hA,hb,fun j u hu=>hj j u ?_⟩
 rw [show u8n (xs.take z)=(u8n xs).take z from by simp [u8n,List.map_take],List.getElem?_take] at hu
 split at hu
 ·exact hu
 ·cases hu
section
variable {F J:Nat→Prop} {g a:Nat} {s:St} {t:Slt} {w:World}
theorem bytes_none (h:DS w F J g a s t) (h1:t.has=false):Calls Tryz.prog 125 #[.pointer (some ⟨a,0,none⟩)] w (Ys w s t):=by
 have HS:=Hz (show Calls Tryz.prog 120 #[.pointer (some ⟨a,0,none⟩)] w fun e w'=>e=.returned (.bool false)∧w=w' from by have:=staged_any h.sm;rw [h1] at this;exact this)
 have HY:=Hz (show pY s t=([],16) from by unfold pY;rw [if_pos h1])
 clear h h1
 go_enter Tryz.func125,Tryz.ntmps125
 go_wp2_with (go_at_call 120;refine HS.out.mono ?_;rintro e w1 ⟨rfl,rfl⟩)
 go_ret2
 exact Ys.empty HY.out (Below.refl _ _)
theorem bytes_miss (h:DS w F J g a s t) (h1:t.has=true) (hg:t.g.right) (h2:miss t.g.h (blocks t.g.z)≠[]):Calls Tryz.prog 125 #[.pointer (some ⟨a,0,none⟩)] w (Ys w s t):=by
 have HS:=Hz (show Calls Tryz.prog 120 #[.pointer (some ⟨a,0,none⟩)] w fun e w'=>e=.returned (.bool true)∧w=w' from by have:=staged_any h.sm;rw [h1] at this;exact this)
 have HY:=Hz (show pY s t=([],11) from by unfold pY;rw [if_neg (by rw [h1];simp),if_pos h2])
 have HW:=Hz (show Calls Tryz.prog 171 #[.pointer (some ⟨a,0,none⟩)] w fun e w'=>e=.returned (.bool false)∧Below w.heap.size w w' from by
  have:=whole_any h.sm
  rw [lim_blocks hg.2.1.2,show (miss t.g.h (blocks t.g.z)).isEmpty=false from by simpa using h2] at this
  exact this)
 clear h h1 h2 hg
 go_enter Tryz.func125,Tryz.ntmps125
 go_wp2_with (first
  | (go_at_call 120;refine HS.out.mono ?_;rintro e w1 ⟨rfl,rfl⟩)
  | (go_at_call 171;refine HW.out.mono ?_;rintro e w1 ⟨rfl,hb1⟩;have L1:=Hz hb1;clear hb1))
 go_ret2
 exact Ys.empty HY.out L1.out
theorem bytes_all (h:DS w F J g a s t) (h1:t.has=true) (hg:t.g.right) (h2:miss t.g.h (blocks t.g.z)=[]):Calls Tryz.prog 125 #[.pointer (some ⟨a,0,none⟩)] w (Ys w s t):=by
 obtain⟨i0,hi0,hz0,hz1,hz2⟩:=info_parts NumA.info8
 have HS:=Hz (show Calls Tryz.prog 120 #[.pointer (some ⟨a,0,none⟩)] w fun e w'=>e=.returned (.bool true)∧w=w' from by have:=staged_any h.sm;rw [h1] at this;exact this)
 have HYD:=Hz (show s.down=true→pY s t=([],8) from fun hd=>by unfold pY;rw [if_neg (by rw [h1];simp),if_neg (fun e=>e h2),if_pos hd])
 have HYU:=Hz (show s.down=false→pY s t=((acc s t 3).take t.g.z.toNat,0) from fun hd=>by unfold pY;rw [if_neg (by rw [h1];simp),if_neg (fun e=>e h2),if_neg (by rw [hd];simp),acc_three])
 have HW:=Hz (show Calls Tryz.prog 171 #[.pointer (some ⟨a,0,none⟩)] w fun e w'=>e=.returned (.bool true)∧Below w.heap.size w w' from by
  have:=whole_any h.sm
  rw [lim_blocks hg.2.1.2,show (miss t.g.h (blocks t.g.z)).isEmpty=true from by simpa using h2] at this
  exact this)
 have HIM:=Hz (fun w' (hb:Below w.heap.size w w') (k:Nat) (hk:k≤2)=>image_any (h.below hb) k hk)
 have H:=Hz h
 obtain⟨z,hz⟩:∃z:Nat,(z:Int)=t.g.z:=⟨t.g.z.toNat,by have:=hg.2.1.1;omega⟩
 have hz1':1≤z:=by have:=hg.2.1.1;omega
 have hz160:z≤160:=by have:=hg.2.1.2;omega
 rw [show t.g.z.toNat=z from by omega] at HYU
 have HZ:=Hz hz
 clear h h1 h2 hg hz
 go_enter Tryz.func125,Tryz.ntmps125
 go_wp2_with (first
  | (go_at_call 120;refine HS.out.mono ?_;rintro e w1 ⟨rfl,rfl⟩)
  | (go_at_call 171;refine HW.out.mono ?_;rintro e w1 ⟨rfl,hb1⟩;have L1:=Hz hb1;clear hb1))
 go_loopw [4,5] (fun b i wr=>∃(k n:Nat) (B:Option Addr) (c:Nat),k≤3∧Hid (n=64*k)∧b=.slice B n c∧i=.int .i64 k∧Hid (wr.ownsRow w.heap.size 5 1 (.slice B n c) n (u8n (acc s t k)))∧Hid (Below w.heap.size w wr)∧Hid (0<k→s.down=false)) (fun _ i _=>3-(intOf i).toNat)
 case atStart=>exact⟨0,0,none,0,by omega,Hz rfl,rfl,rfl,Hz (World.ownsRow_nil _ _ _ _),L1,Hz fun h=>absurd h (by omega)⟩
 case round=>
  obtain⟨k,n,B,c,hk,hn,rfl,rfl,HO,LR,HU⟩:=hrel
  obtain⟨_,_,_,_,c4,_⟩:=(H.out.sm.below LR.out).cells
  rw [←HZ.out] at c4
  have hal:=(H.out.sm.below LR.out).blk.lt
  have hcap:=(Rd.own HO.out).2.1
  by_cases hlt:n<z
  ·have hk2:k≤2:=by have:=hn.out;omega
   have hn128:n≤128:=by have:=hn.out;omega
   have hlt':(n:Int)<(z:Int):=by omega
   cases hd:s.down with
   | true=>
     have HI:=Hz ((HIM.out wr LR.out k hk2).mono fun _ _=>img_no hd)
     have HD:=Hz hd
     clear hd
     go_wp2_with (go_at_call 123;refine HI.out.mono ?_;rintro e w2 ⟨hb2,A,m,rfl⟩;have L2:=Hz (LR.out.trans (hb2.mono LR.out.size));clear hb2)
     go_ret2
     exact Ys.empty (HYD.out HD.out) (L2.out.alloc L2.out.size _)
   | false=>
     have HI:=Hz ((HIM.out wr LR.out k hk2).mono fun _ _=>img_yes hd)
     have HD:=Hz hd
     clear hd
     go_wp2_with (first
      | (go_at_call 123;refine HI.out.mono ?_;rintro e w2 ⟨hb2,b,rfl,hB2,hbb,hl2⟩;have L2:=LR.out.trans (hb2.mono LR.out.size);have L3:=Hz (L2.alloc L2.size (.cells #[.int .i64 (t.dat k:Nat),.slice (some ⟨b,0,none⟩) 64 64] 192));have HO3:=Hz (own_below (own_below HO.out hb2) ((Below.refl w2.heap.size w2).alloc (Nat.le_refl _) (.cells #[.int .i64 (t.dat k:Nat),.slice (some ⟨b,0,none⟩) 64 64] 192)));have HR3:=Hz ((blk_rd hB2 hl2 (by omega)).alloc (.cells #[.int .i64 (t.dat k:Nat),.slice (some ⟨b,0,none⟩) 64 64] 192));clear hb2 hB2 hbb hl2 L2)
      | (at_builtin;refine wpList_add _ rfl (.tmp 38) (.tmp 40) _ rfl w.heap.size 5 i0 _ 1 Tryz.underlying52 hi0 hz0 hz1 hz2 rfl _ n _ rfl HO3.out (some ⟨b,0,none⟩) 64 64 (u8n (now s (t.dat k))) rfl HR3.out (u8n_one _) (by omega) (by omega) L3.out.size ?_;intro A4 n4 c4' w4 hn4 hown4 hg4 hat4;have L4:=Hz (below_add L3.out HO3.out (Nat.le_refl _) hg4);have HO4:=Hz hown4;have HN4:=hn4;clear hat4 hg4 hown4 hn4))
     go_roundw
     case rel=>exact⟨k+1,n4,A4,c4',by omega,Hz (by have:=HN4.out;have:=hn.out;omega),rfl,by go_num,Hz (by have:=HO4.out;rw [u8n_app] at this;exact this),L4,Hz fun _=>trivial⟩
     case measure=>simp [intOf];omega
  ·have hle:(z:Int)≤(n:Int):=by omega
   have hzc:(z:Int)≤(c:Int):=by omega
   have hd:=HU.out (by have:=hn.out;omega)
   have HX:=Hz (HYU.out hd)
   have HL:=Hz (show acc s t 3=acc s t 3∧n=(acc s t k).length from⟨rfl,by have:=HO.out.1;rw [u8n_len] at this;omega⟩)
   clear hd
   go_wp2_with fail
   go_ret2
   refine⟨B,z,c,by rw [HX.out];rfl,?_,LR.out,fun q o hB=>?_⟩
   ·rw [HX.out,acc_take s t hk (by have:=HL.out.2;omega)]
    exact Rd.few (Rd.own HO.out) (by omega)
   ·have hB':(Value.slice B n c).ownBlock=some q:=by rw [hB];rfl
    exact (HO.out.lt q hB').1
theorem bytes_new (F J:Nat→Prop) (g a:Nat) (s:St) (t:Slt) (w:World) (h:DS w F J g a s t) (hg:t.has=true→t.g.right) :
 Calls Tryz.prog 125 #[.pointer (some ⟨a,0,none⟩)] w (Ys w s t):=by
 cases h1:t.has with
 | false=>exact bytes_none h h1
 | true=>
   by_cases h2:miss t.g.h (blocks t.g.z)=[]
   ·exact bytes_all h h1 (hg h1) h2
   ·exact bytes_miss h h1 (hg h1) h2
end
end StgN
namespace StgN
open Go.RowKit Kit Byt Mem DskA DskE RecM StgM
theorem bytes_any (F J:Nat→Prop) (g a:Nat) (s:St) (t:Slt) (w:World) (h:DS w F J g a s t) (hg:t.has=true→t.g.right) :
 Calls Tryz.prog 125 #[.pointer (some ⟨a,0,none⟩)] w fun e w'=>∃B m d,e=.returned (.tuple #[.slice B m d,.int .i64 (pY s t).2])∧Rd w' B m d (u8n (pY s t).1)∧Below w.heap.size w w':=
 (bytes_new F J g a s t w h hg).mono fun _ _ ⟨B,m,d,h1,h2,h3,_⟩=>⟨B,m,d,h1,h2,h3⟩
end StgN
namespace StgJ
open Go.RowKit Kit Byt Mem DskA DskE DskF RecM StgM StgP StgQ StgN
open RecA (n64 sval)
open DskB (newSt cnt zs)
section
variable {S0:List (List Nat)} {s:St} {t:Slt} {x:Rf}
theorem free_B (h:Inv S0 s t x) (f:Free s) (n z:Int):(pB s t n z).2.2=(rB x n z).2∧Inv S0 (pB s t n z).1 (pB s t n z).2.1 (rB x n z).1∧Free (pB s t n z).1∧(pB s t n z).2.1.p=t.p∧(pB s t n z).2.1.k=t.k:=by
 have hp:=put1_free f t.at_ (shut (fresh n z).bytes)
 have hne:(pB s t n z).2.2≠8∧Free (pB s t n z).1∧(pB s t n z).2.1.p=t.p∧(pB s t n z).2.1.k=t.k:=by
  unfold pB
  split
  ·rw [if_pos hp.1]
   exact⟨by show (0:Int)≠8;omega,hp.2,rfl,rfl⟩
  ·exact⟨by show (3:Int)≠8;omega,f,rfl,rfl⟩
 rcases step_B h n z with⟨h1,_,h2⟩|⟨h1,_⟩
 ·exact⟨h1,h2,hne.2⟩
 ·exact absurd h1 hne.1
theorem free_P (h:Inv S0 s t x) (f:Free s) (n no:Int) (d:List Nat) (hbd:byt d):(pP s t n no d).2.2=(rP x n no d).2∧Inv S0 (pP s t n no d).1 (pP s t n no d).2.1 (rP x n no d).1∧Free (pP s t n no d).1∧(pP s t n no d).2.1.p=t.p∧(pP s t n no d).2.1.k=t.k:=by
 have hp:=put1_free f (t.dat (no.toNat/4)) (sect s t no.toNat d)
 have hq:=put1_free hp.2 t.at_ (shut (more t.g no).bytes)
 have hne:(pP s t n no d).2.2≠8∧Free (pP s t n no d).1∧(pP s t n no d).2.1.p=t.p∧(pP s t n no d).2.1.k=t.k:=by
  unfold pP
  split
  ·exact⟨by show (16:Int)≠8;omega,f,rfl,rfl⟩
  split
  ·exact⟨by show (17:Int)≠8;omega,f,rfl,rfl⟩
  split
  ·exact⟨by show (3:Int)≠8;omega,f,rfl,rfl⟩
  split
  ·exact⟨by show (14:Int)≠8;omega,f,rfl,rfl⟩
  split
  ·exact⟨by show (0:Int)≠8;omega,f,rfl,rfl⟩
  rw [if_neg (fun e=>e hp.1),if_neg (fun e=>e hq.1)]
  exact⟨by show (0:Int)≠8;omega,hq.2,rfl,rfl⟩
 rcases step_P h n no d hbd with⟨h1,_,h2⟩|⟨h1,_⟩
 ·exact⟨h1,h2,hne.2⟩
 ·exact absurd h1 hne.1
end
theorem getS_zs:(getS (zs 64)).2≠0:=by
 have e:wrong 83 8 (zs 64)=2:=by
  have:=wrong_same 83 0 64 8 (by omega)
  rw [if_pos rfl] at this
  exact this
 unfold getS
 rw [e,if_pos (by omega)]
 show (2:Int)≠0
 omega
section
variable {w0 w w':World} {F J:Nat→Prop} {g a p k:Nat} {S0:List (List Nat)} {s:St} {x:Rf}
theorem right_of {t:Slt} (h:Inv S0 s t x):t.has=true→t.g.right:=fun e=>by rw [h.g];exact h.wf.right (by rw [←h.has];exact e)
end
end StgJ
namespace StoMk
open Go.RowKit Kit Byt Mem DskA DskB DskD DskE DskF RecM StgM StgP StgQ StgJ CmtM Put2 StoM StoK
open ShaM (by256)
def pL (s:St) (t:Slt) (xs:List Nat):Nat→St×Slt
 | 0=>((pB s t 1 (xs.length:Nat)).1,(pB s t 1 (xs.length:Nat)).2.1)
 | j+1=>((pP (pL s t xs j).1 (pL s t xs j).2 1 (j:Nat) (bk xs j)).1,(pP (pL s t xs j).1 (pL s t xs j).2 1 (j:Nat) (bk xs j)).2.1)
structure Ls (S0:List (List Nat)) (t:Slt) (xs:List Nat) (x:Rf) (j:Nat) (r:St×Slt):Prop where
 inv:Inv S0 r.1 r.2 (ldX xs 1 x j)
 free:Free r.1
 p:r.2.p=t.p
 k:r.2.k=t.k
section
variable {S0:List (List Nat)} {s:St} {t:Slt} {x:Rf} {xs:List Nat}
theorem pL_first (h:Inv S0 s t x) (f:Free s) (hn:1≤xs.length∧xs.length≤160):(pB s t 1 (xs.length:Nat)).2.2=0∧Ls S0 t xs x 0 (pL s t xs 0):=by
 obtain⟨h1,h2,h3,h4,h5⟩:=free_B h f 1 (xs.length:Nat)
 exact⟨by rw [h1];exact (ld_first x (by omega) hn).1,h2,h3,h4,h5⟩
theorem pL_next (hx:by256 xs) (hn:1≤xs.length∧xs.length≤160) {j:Nat} (hj:j<blocks (xs.length:Nat)) (h:Ls S0 t xs x j (pL s t xs j)) :
 (pP (pL s t xs j).1 (pL s t xs j).2 1 (j:Nat) (bk xs j)).2.2=0∧Ls S0 t xs x (j+1) (pL s t xs (j+1)):=by
 obtain⟨h1,h2,h3,h4,h5⟩:=free_P h.inv h.free 1 (j:Nat) (bk xs j) (fun c hc=>bk_by hx j c hc)
 have hl:=ldx (xs:=xs) x (q:=1) (by omega) hn j (by omega)
 exact⟨by rw [h1];exact (ld_put hl (by rw [hl.len];omega)).1,h2,h3,by rw [show (pL s t xs (j+1)).2.p=(pP (pL s t xs j).1 (pL s t xs j).2 1 (j:Nat) (bk xs j)).2.1.p from rfl,h4,h.p],by rw [show (pL s t xs (j+1)).2.k=(pP (pL s t xs j).1 (pL s t xs j).2 1 (j:Nat) (bk xs j)).2.1.k from rfl,h5,h.k]⟩
theorem pL_all (h:Inv S0 s t x) (f:Free s) (hx:by256 xs) (hn:1≤xs.length∧xs.length≤160):∀j,j≤blocks (xs.length:Nat)→Ls S0 t xs x j (pL s t xs j)
 | 0,_=>(pL_first h f hn).2
 | j+1,hj=>(pL_next hx hn (by omega) (pL_all h f hx hn j (by omega))).2
end
theorem lF_S {s:St} (hu:Up0 s) (f:Free s) {p:Nat} (hl:10*p+2≤s.S.length):(lF s p).1.S=(s.S.set (10*p+1) (zs 64)).set (10*p) (shut (one p).bytes):=by
 have h1:=put1_free f (10*p+1) (zs 64)
 have h2:=put1_free h1.2 (10*p) (shut (one p).bytes)
 have hb:=shut_len (xs:=(one p).bytes) (by rw [Rc.bytes_len];omega)
 unfold lF
 rw [if_pos h1.1]
 rcases put1_cases hu (i:=10*p+1) (bs:=zs 64) (by omega) (zs_len 64) with⟨_,gu,gS⟩|⟨g8,_⟩
 ·rcases put1_cases gu (i:=10*p) (bs:=shut (one p).bytes) (by rw [gS,List.length_set];omega) hb with⟨_,_,kS⟩|⟨k8,_⟩
  ·rw [kS,gS]
  ·rw [h2.1] at k8;exact absurd k8 (by omega)
 ·rw [h1.1] at g8;exact absurd g8 (by omega)
structure Mk (s:St) (N k:Nat) (O:Nat→Ow):Prop where
 up:Up0 s
 free:Free s
 byts:Byts s
 len:s.S.length=N
 cr:∀p,p<k→Okw p (O p)∧CR s.S p (O p) 0
 zs:∀j,10*k≤j→j<N→s.S.getD j []=zs 64
theorem mk_new (m:Int) (O:Nat→Ow):Mk (newSt m) (cnt m) 0 O:=
 ⟨⟨rfl,rfl,new_ok m⟩,⟨by show (-1:Int)<0;omega,rfl⟩,new_byts m,new_len m,fun p hp=>by omega,fun j _ hj=>new_getD m j hj⟩
section
variable {s:St} {N k:Nat} {O:Nat→Ow} {xs:List Nat}
theorem Mk.rep (h:Mk s N k O) (hN:10*k+10≤N) {j:Nat} (hj:j≤1):Rep s.S (pO s k j) Rf.none:=by
 refine⟨fun e=>(by cases e),fun _=>?_,fun i hi=>(by simp [Rf.none] at hi)⟩
 rw [show (pO s k j).at_=10*k+2+4*j from rfl,h.zs _ (by omega) (by omega)]
 exact getS_zs
theorem Mk.inv (h:Mk s N k O) (hN:10*k+10≤N) {j:Nat} (hj:j≤1):Inv s.S s (pO s k j) Rf.none:=by
 have hr:=h.rep hN hj
 have hl:=pO_like (t:=pO s k j) h.up.none_ hr none_wf
 exact⟨h.up,hr,hl.1,hl.2,none_wf,by rw [show (pO s k j).at_=10*k+2+4*j from rfl,h.len];omega,⟨rfl,fun _ _=>rfl⟩,h.byts⟩
theorem Mk.next (h:Mk s N k O) (hk:k≤3) (hN:10*k+10≤N) (hx:by256 xs) (hn:1≤xs.length∧xs.length≤160) (hO:Okw k (O k)) (hr:(O k).r=one k) (h0:(O k).x 0=ldX xs 1 Rf.none (blocks (xs.length:Nat))) (h1:(O k).x 1=Rf.none) :
 (lF (pL s (pO s k 0) xs (blocks (xs.length:Nat))).1 k).2=0∧Mk (lF (pL s (pO s k 0) xs (blocks (xs.length:Nat))).1 k).1 N (k+1) O:=by
 have hi:=h.inv hN (j:=0) (by omega)
 have ha:=pL_all (xs:=xs) hi h.free hx hn _ (Nat.le_refl _)
 obtain⟨q,hq⟩:∃q,q=pL s (pO s k 0) xs (blocks (xs.length:Nat)):=⟨_,rfl⟩
 rw [←hq] at ha ⊢
 have hql:q.1.S.length=N:=by rw [ha.inv.out.1,h.len]
 have hat:q.2.at_=10*k+2:=by unfold Slt.at_;rw [ha.p,ha.k];rfl
 have hout:∀j,j<10*k+2∨10*k+6≤j→q.1.S.getD j []=s.S.getD j []:=fun j hj=>ha.inv.out.2 j (by rw [hat];omega)
 have hf:=free_F ha.inv.up ha.free ha.inv.byts (p:=k) hk (by omega)
 have hS:=lF_S ha.inv.up ha.free (p:=k) (by omega)
 have hget:∀j,j<10*k∨10*k+2≤j→(lF q.1 k).1.S.getD j []=q.1.S.getD j []:=fun j hj=>by
  rw [hS,getD_set _ (by rw [List.length_set];omega),if_neg (by omega),getD_set _ (by omega),if_neg (by omega)]
 have hNl:(lF q.1 k).1.S.length=N:=by rw [hS,List.length_set,List.length_set,hql]
 refine⟨hf.1,hf.2.1.up,hf.2.2,hf.2.1.byts,hNl,fun p hp=>?_,fun j hj hjN=>?_⟩
 ·by_cases e:p=k
  ·subst e
   refine⟨hO,?_,fun j hj=>?_⟩
   ·rw [hr];exact hf.2.1.tell
   ·rcases (show j=0∨j=1 from by omega) with rfl|rfl
    ·rw [h0]
     refine rep_cong (S:=q.1.S) (t:=pl p 0 _) (Rep.to ha.inv.rep (by rw [hat];rfl)) ha.inv.wf fun i h2 h3=>hget i (by rw [pl_at] at h2;omega)
    ·rw [h1]
     refine⟨fun e=>(by cases e),fun _=>?_,fun i hi=>(by simp [Rf.none] at hi)⟩
     rw [pl_at,hget _ (by omega),hout _ (by omega),h.zs _ (by omega) (by omega)]
     exact getS_zs
  ·have hp':p<k:=by omega
   have h2:=h.cr p hp'
   exact⟨h2.1,h2.2.cong h2.1 fun j h3 h4=>by rw [hget j (by omega),hout j (by omega)]⟩
 ·rw [hget j (by omega),hout j (by omega)]
  exact h.zs j (by omega) hjN
theorem Mk.su (h:Mk s N k O) (hk:k≤4) (hN:10*k≤N):SU s k (opn s) O:=su_of h.up h.byts hk (by rw [h.len];exact hN) (fun p hp=>(h.cr p hp).1) fun p hp=>⟨0,by omega,(h.cr p hp).2⟩
end
end StoMk
namespace StoLd
open Go.RowKit Kit Byt Mem DskA DskB DskD DskE RecM StgM StgP StgQ StgJ CmtM Put2 StoM StoK StoMk
open ShaM (by256)
open BitM (hb)
def stp (r:(St×Slt)×Nat) (d:List Nat):(St×Slt)×Nat:=(((pP r.1.1 r.1.2 1 (r.2:Nat) d).1,(pP r.1.1 r.1.2 1 (r.2:Nat) d).2.1),r.2+1)
def pD (s:St) (t:Slt) (len:Nat) (ds:List (List Nat)):(St×Slt)×Nat:=ds.foldl stp (((pB s t 1 (len:Nat)).1,(pB s t 1 (len:Nat)).2.1),0)
theorem pD_snoc (s:St) (t:Slt) (len:Nat) (ds:List (List Nat)) (d:List Nat):pD s t len (ds++[d])=stp (pD s t len ds) d:=by simp [pD]
theorem pD_n (s:St) (t:Slt) (len:Nat):∀n (ds:List (List Nat)),ds.length=n→(pD s t len ds).2=n
 | 0,ds,h=>by rw [List.eq_nil_of_length_eq_zero h];rfl
 | n+1,ds,h=>by
   obtain⟨ds',d,rfl⟩:∃ds' d,ds=ds'++[d]:=⟨ds.dropLast,ds.getLast (fun e=>by rw [e] at h;cases h),(List.dropLast_concat_getLast _).symm⟩
   rw [pD_snoc]
   show (pD s t len ds').2+1=n+1
   rw [pD_n s t len n ds' (by simpa using h)]
theorem pD_pL (s:St) (t:Slt) (xs:List Nat):∀j,(pD s t xs.length ((List.range j).map (bk xs))).1=pL s t xs j
 | 0=>rfl
 | j+1=>by
   have h2:=pD_n s t xs.length j ((List.range j).map (bk xs)) (by simp)
   rw [List.range_succ,List.map_append,List.map_cons,List.map_nil,pD_snoc]
   unfold stp
   rw [pD_pL s t xs j,h2]
   rfl
structure Pd (S0:List (List Nat)) (t:Slt) (len:Nat) (r:St×Slt):Prop where
 inv:∃x,Inv S0 r.1 r.2 x
 free:Free r.1
 has:r.2.has=true
 ses:r.2.g.s=1
 siz:r.2.g.z=len
 p:r.2.p=t.p
 k:r.2.k=t.k
section
variable {S0:List (List Nat)} {s:St} {t:Slt} {x:Rf} {len:Nat}
theorem pB_pd (h:Inv S0 s t x) (f:Free s) (hn:1≤len∧len≤160):(pB s t 1 (len:Nat)).2.2=0∧Pd S0 t len ((pB s t 1 (len:Nat)).1,(pB s t 1 (len:Nat)).2.1):=by
 have hr:(fresh 1 (len:Nat)).right:=fresh_right (by omega) (by omega)
 obtain⟨h1,h2,h3,h4,h5⟩:=free_B h f 1 (len:Nat)
 have hp:=(put1_free f t.at_ (shut (fresh 1 (len:Nat)).bytes)).1
 have e:pB s t 1 (len:Nat)=((put1 s t.at_ (shut (fresh 1 (len:Nat)).bytes)).1,{ t with has:=true,g:=fresh 1 (len:Nat) },0):=by
  unfold pB
  rw [if_pos hr,if_pos hp]
 rw [e] at h1 h2 h3 h4 h5 ⊢
 exact⟨rfl,⟨_,h2⟩,h3,rfl,rfl,rfl,h4,h5⟩
theorem pP_pd {r:St×Slt} (h:Pd S0 t len r) (hn:len≤160) {no:Nat} (hno:no<blocks (len:Nat)) {d:List Nat} (hd:d.length=16) (hb':byt d):(pP r.1 r.2 1 (no:Nat) d).2.2=0∧Pd S0 t len ((pP r.1 r.2 1 (no:Nat) d).1,(pP r.1 r.2 1 (no:Nat) d).2.1):=by
 obtain⟨x,hi⟩:=h.inv
 obtain⟨_,h2,h3,h4,h5⟩:=free_P hi h.free 1 (no:Nat) d hb'
 have c1 : ¬r.2.has=false:=by rw [h.has];simp
 have c2 : ¬(1:Int)≠r.2.g.s:=by rw [h.ses];simp
 have c3 : ¬((no:Int)<0∨(blocks r.2.g.z:Int)≤(no:Int)):=by rw [h.siz];omega
 have c4 : ¬d.length≠16:=by rw [hd];simp
 by_cases hh:hb r.2.g.h (no:Nat)=true
 ·have e:pP r.1 r.2 1 (no:Nat) d=(r.1,r.2,0):=by
   unfold pP
   rw [if_neg c1,if_neg c2,if_neg c3,if_neg c4,if_pos hh]
  rw [e]
  exact⟨rfl,h⟩
 ·have f1:=put1_free h.free (r.2.dat ((no:Int).toNat/4)) (sect r.1 r.2 (no:Int).toNat d)
  have f2:=put1_free f1.2 r.2.at_ (shut (more r.2.g (no:Nat)).bytes)
  have e:pP r.1 r.2 1 (no:Nat) d=((put1 (put1 r.1 (r.2.dat ((no:Int).toNat/4)) (sect r.1 r.2 (no:Int).toNat d)).1 r.2.at_ (shut (more r.2.g (no:Nat)).bytes)).1,{ r.2 with g:=more r.2.g (no:Nat) },0):=by
   unfold pP
   rw [if_neg c1,if_neg c2,if_neg c3,if_neg c4,if_neg hh,if_neg (by rw [f1.1];simp),if_neg (by rw [f2.1];simp)]
  rw [e] at h2 h3 h4 h5 ⊢
  exact⟨rfl,⟨_,h2⟩,h3,h.has,h.ses,h.siz,h4.trans h.p,h5.trans h.k⟩
theorem pD_pd (h:Inv S0 s t x) (f:Free s) (hn:1≤len∧len≤160):∀n (ds:List (List Nat)),ds.length=n→n≤blocks (len:Nat)→(∀d ∈ ds,d.length=16∧byt d)→Pd S0 t len (pD s t len ds).1
 | 0,ds,hl,_,_=>by rw [List.eq_nil_of_length_eq_zero hl];exact (pB_pd h f hn).2
 | n+1,ds,hl,hm,hd=>by
   obtain⟨ds',d,rfl⟩:∃ds' d,ds=ds'++[d]:=⟨ds.dropLast,ds.getLast (fun e=>by rw [e] at hl;cases hl),(List.dropLast_concat_getLast _).symm⟩
   have hl':ds'.length=n:=by simpa using hl
   have h1:=pD_pd h f hn n ds' hl' (by omega) fun d hd'=>hd d (List.mem_append.2 (.inl hd'))
   have h2:=hd d (List.mem_append.2 (.inr (List.mem_singleton.2 rfl)))
   rw [pD_snoc]
   have hnn:=pD_n s t len n ds' hl'
   have h3:=(pP_pd h1 hn.2 (no:=n) (by omega) h2.1 h2.2).2
   unfold stp
   rw [hnn]
   exact h3
end
end StoLd
namespace StoLd
open Go.RowKit Go.Shelf Kit Byt Mem
open BitP (Kp Kp.refl Kp.t Kp.b blk_kept)
attribute [local go_sem] Oper.semAt_some
def nbk (n:Nat):Nat:=(n+15)/16
def pce (n k:Nat):Nat:=min 16 (n-16*k)
def enc (b o n:Nat) (x:Fin (nbk n)):Array Value:=#[.slice (some ⟨b,o+16*x.val,none⟩) (pce n x.val) (pce n x.val)]
def upto {N:Nat} (l:List (Fin N)) (k:Nat):Prop:=l.map (·.val)=List.range k
theorem chunk1_in (m:Nat) (hm:3≤m) (l Bs Bn b o n c:Nat) (hn:0<n∧n≤1000) (hc:n≤c∧c≤9223372036854775807) (J Jx:List (Fin (nbk n))→World→Prop) (hA:∀pre A,J pre A→J pre A.drew)
 (hY:∀pre x W,J pre W→pre.length<nbk n→YieldAt Fence.wide (m-1) Tryz.prog l (enc b o n x) W fun e W'=>
   (e=.returned (.bool true)∧J (pre++[x]) W'∧Kp Bs Bn W W')∨(e=.returned (.bool false)∧Jx (pre++[x]) W'))
 (W:World) (hcs:Blk W Bs 52 [.slice (some ⟨b,o,none⟩) n c]) (hcn:Blk W Bn 3 [.int .i64 16]) (h0:J [] W) :
 CallsIn Fence.wide m Tryz.prog 218 #[.func (.yield l) #[] #[],.pointer (some ⟨Bs,0,none⟩),.pointer (some ⟨Bn,0,none⟩)] W fun e W'=>(∃v,e=.returned v)∧
  ((∃ys,upto ys (nbk n)∧J ys W')∨(∃pre,(∃k,k≤nbk n∧upto pre k)∧Jx pre W')):=by
 have hN:nbk n≤1000:=by unfold nbk;omega
 have hN2:16*nbk n<n+16∧n≤16*nbk n:=by unfold nbk;omega
 have h1m:1≤m:=by omega
 obtain⟨N,hNN⟩:∃N,N=nbk n:=⟨_,rfl⟩
 refine callsIn_of_wp Tryz.func218 rfl trivial ?_ rfl
 simp only [Tryz.ntmps218,List.size_toArray,List.length_cons,List.length_nil,Nat.reduceAdd,Nat.reduceSub,Array.replicate_succ,Array.replicate_zero,List.push_toArray,List.append_toArray,List.nil_append,List.cons_append]
 gi_wp2
 gi_loopw [4] (fun i wr=>∃(k:Nat) (pre:List (Fin (nbk n))),k≤nbk n∧i=.int .i64 ((16*k:Nat):Int)∧Hid (upto pre k)∧J pre wr∧Kp Bs Bn W wr) (fun i _=>nbk n-(intOf i).toNat/16)
 case atStart=>exact⟨0,[],Nat.zero_le _,rfl,Hz rfl,h0,Kp.refl _⟩
 case round=>
  obtain⟨k,pre,hk,rfl,HV,hJ,hkp⟩:=hrel
  have cs:=((show Blk wr Bs 52 [.slice (some ⟨b,o,none⟩) n c] from hkp.1.trans hcs)).cell (i:=0) rfl
  have cn:=((show Blk wr Bn 3 [.int .i64 16] from hkp.2.trans hcn)).cell (i:=0) rfl
  by_cases hlt:k<nbk n
  ·have hkn:16*k<n:=by unfold nbk at hlt;omega
   obtain⟨q,hq⟩:∃q,q=16*k:=⟨_,rfl⟩
   obtain⟨fn,tmps,assign,body,hy,hR⟩:=hY pre (⟨k,hlt⟩:Fin (nbk n)) wr.drew (hA _ _ hJ) (by
    have h8:=congrArg List.length HV.out
    rw [List.length_map,List.length_range] at h8
    omega)
   simp only [enc,pce] at hy
   rw [←hq] at hy ⊢
   have hqn:(q:Int)<n:=by omega
   have hqn':q<n:=by omega
   have HQ:=Hz hq
   clear hq hkn
   gi_wp2
   gi_region
   obtain⟨p,hp⟩:∃p,p=min 16 (n-q):=⟨_,rfl⟩
   rw [←hp] at hy
   have hif:(if ((n-q:Nat):Int)<16 then ((n-q:Nat):Int) else 16)=(p:Int):=by rw [hp];split <;> omega
   simp only [hif]
   have hpn:q+p≤n:=by omega
   have hp0:0<p:=by omega
   have hqc:q+p≤c:=by omega
   have hsum:IntKind.i64.wrap ((q:Int)+(p:Int))=((q+p:Nat):Int):=by rw [IntKind.wrap_i64];omega
   clear hif hp
   gi_wp2
   refine hR.mono ?_
   rintro e W3 (⟨rfl,hJ3,hk3⟩|⟨rfl,hJx3⟩)
   ·have hk4:Kp Bs Bn wr W3:=hk3
    have hkw:=hkp.t hk4
    have cn3:=((show Blk W3 Bn 3 [.int .i64 16] from hkw.2.trans hcn)).cell (i:=0) rfl
    have hs2:IntKind.i64.wrap ((q:Int)+16)=((q+16:Nat):Int):=by rw [IntKind.wrap_i64];omega
    gi_wp2
    go_roundw
    case rel=>exact⟨k+1,_,by omega,by rw [show 16*(k+1)=q+16 from by have:=HQ.out;omega];go_num,Hz (by unfold upto;rw [List.map_append,List.range_succ];exact congrArg (·++[k]) HV.out),hJ3,hkw⟩
    case measure=>simp [intOf];have:=HQ.out;omega
   ·gi_wp2
    refine bodyPost_ret (results_none rfl _ _ _) rfl ?_
    exact⟨⟨_,rfl⟩,.inr ⟨_,⟨k+1,by omega,by unfold upto;rw [List.map_append,List.range_succ];exact congrArg (·++[k]) HV.out⟩,hJx3⟩⟩
  ·obtain rfl:k=nbk n:=by omega
   have hge : ¬((16*nbk n:Nat):Int)<(n:Nat):=by omega
   gi_wp2
   go_end0
   exact⟨⟨_,rfl⟩,.inl ⟨_,HV.out,hJ⟩⟩
theorem chunk_in (m:Nat) (A:Option Addr) (n c:Nat) (w:World) :
 CallsIn Fence.wide m Tryz.prog 186 #[.slice A n c,.int .i64 16] w fun e w'=>e=.returned (.func (.func 218) #[] #[.pointer (some ⟨w.heap.size,0,none⟩),.pointer (some ⟨w.heap.size+1,0,none⟩)])∧w'=(w.alloc (.cells #[.slice A n c] 52)).alloc (.cells #[.int .i64 16] 3):=by
 refine callsIn_of_wp Tryz.func186 rfl trivial ?_ rfl
 simp only [Tryz.ntmps186,List.size_toArray,List.length_cons,List.length_nil,Nat.reduceAdd,Nat.reduceSub,Array.replicate_succ,Array.replicate_zero,List.push_toArray,List.append_toArray,List.nil_append,List.cons_append]
 gi_wp2
 go_ret
 exact⟨rfl,rfl⟩
theorem chunk_stops (m:Nat) (hm:3≤m) (Bs Bn b o n c:Nat) (hn:0<n∧n≤1000) (hc:n≤c∧c≤9223372036854775807) (w:World) (hcs:Blk w Bs 52 [.slice (some ⟨b,o,none⟩) n c]) (hcn:Blk w Bn 3 [.int .i64 16]) :
 SeqStopsK Fence.wide m Tryz.prog 218 #[.pointer (some ⟨Bs,0,none⟩),.pointer (some ⟨Bn,0,none⟩)] (enc b o n) (Kp Bs Bn) (fun ys=>upto ys (nbk n)) (fun pre=>∃k,k≤nbk n∧upto pre k) (nbk n) w:=fun l J Jx W hW hA _ hY h0=>
 chunk1_in m hm l Bs Bn b o n c hn hc J Jx (fun pre A h=>hA pre A A.drew none h ⟨rfl,rfl,rfl,Nat.le_refl _,fun _ _ _=>rfl⟩ fun r e=>(by cases e)) hY W (hcs.below hW) (hcn.below hW) h0
end StoLd
namespace CmtC
open Go.RowKit Kit Byt Mem RecM RecA
theorem rc_eq {r k:Rc} (h1:r.p=k.p) (h2:r.q=k.q) (h3:r.a=k.a) (h4:r.c=k.c) (h5:r.l=k.l) (h6:r.b=k.b):r=k:=by
 obtain⟨a,b,c,d,e,f⟩:=r
 obtain⟨a',b',c',d',e',f'⟩:=k
 simp only at h1 h2 h3 h4 h5 h6
 subst h1 h2 h3 h4 h5 h6
 rfl
theorem req (r k:Rc) (b:Bool) (hb:b=true↔r=k) (w:World):(Op.equalIn 10000 64 (rval r) (rval k)).run Tryz.prog w=.ok b w:=by
 have ht:Tryz.prog.underlying 64=some (.struct (Tryz.prog.fieldsOf 64)):=by kernel_rfl
 have hp:Tryz.prog.stoodInHeld 64=false:=by kernel_rfl
 rw [show (10000:Nat)=9999+1 from rfl,run_equalIn_struct w 9999 _ _ _ ht hp]
 have e:b=(((((((r.p==k.p)&&(r.q==k.q))&&(r.a==k.a))&&(r.c==k.c))&&(r.l==k.l))&&(r.b==k.b))):=by
  rw [Bool.eq_iff_iff,hb]
  simp only [Bool.and_eq_true,beq_iff_eq]
  exact⟨fun h=>by rw [h];exact⟨⟨⟨⟨⟨rfl,rfl⟩,rfl⟩,rfl⟩,rfl⟩,rfl⟩,fun⟨⟨⟨⟨⟨h1,h2⟩,h3⟩,h4⟩,h5⟩,h6⟩=>rc_eq h1 h2 h3 h4 h5 h6⟩
 subst e
 simp [go_sem,Op.eqFields,Tryz.underlying64,Tryz.underlying3]
 clear hb
 (repeat' split) <;> simp [*]
end CmtC
namespace CmtN
open Go.RowKit Kit Byt Mem DskA DskC DskD DskE DskF RecM CmtM StgM PlaM
open RecA (rval rcells rok)
def lgc (g:Nat) (l:Lg):List Value:=[.pointer (some ⟨g,0,none⟩),.int .i64 (l.p:Nat),.int .i64 l.r.p,.int .i64 l.r.q,.int .i64 l.r.a,.int .i64 l.r.c,.int .i64 l.r.l,.int .i64 l.r.b,.int .i64 (l.i:Nat)]
structure Lm (w:World) (J:Nat→Prop) (a g:Nat) (l:Lg):Prop where
 blk:Blk w a 169 (lgc g l)
 own:∀i,J i↔i=a
 ok:rok l.r
theorem Lm.keep {w w':World} {J G:Nat→Prop} {a g:Nat} {l:Lg} (h:Lm w J a g l) (k:Keep G w w') (hd:∀i,J i→¬G i):Lm w' J a g l:=
 ⟨k.blk h.blk (hd a ((h.own a).2 rfl)),h.own,h.ok⟩
theorem Lm.lt {w:World} {J:Nat→Prop} {a g:Nat} {l:Lg} (h:Lm w J a g l):∀i,J i→i<w.heap.size:=fun i hi=>by
 rw [(h.own i).1 hi]
 exact h.blk.lt
theorem Lm.below {w w':World} {J:Nat→Prop} {a g:Nat} {l:Lg} (h:Lm w J a g l) (hb:Below w.heap.size w w'):Lm w' J a g l:=h.keep (Keep.of_below (F:=fun _=>False) hb) fun _ _ h=>h
theorem Lm.cells {w:World} {J:Nat→Prop} {a g:Nat} {l:Lg} (h:Lm w J a g l):w.cell? ⟨a,0,none⟩=some (.pointer (some ⟨g,0,none⟩))∧w.cell? ⟨a,1,none⟩=some (.int .i64 (l.p:Nat))∧w.cell? ⟨a,3,none⟩=some (.int .i64 l.r.q)∧w.cell? ⟨a,8,none⟩=some (.int .i64 (l.i:Nat)):=
 ⟨h.blk.cell rfl,h.blk.cell rfl,h.blk.cell rfl,h.blk.cell rfl⟩
structure LS (w:World) (F J:Nat→Prop) (g a:Nat) (s:St) (l:Lg):Prop where
 dk:Dk w F g s
 lm:Lm w J a g l
 dis:∀i,F i→¬J i
 most:s.L.length≤1000000
 fits:l.p≤3∧10*l.p+2≤s.S.length
 rec_:l.r.right∧l.r.p=l.p∧l.i≤1
def Lgo (F J:Nat→Prop) (g a:Nat) (w:World) (v:Value) (s':St) (l':Lg) (e:Ending) (w':World):Prop:=
 e=.returned v∧∃F' J',Dk w' F' g s'∧Lm w' J' a g l'∧(∀i,F' i→¬J' i)∧Keep (fun i=>F i∨J i) w w'∧(∀i,F' i→(F i∨J i)∨w.heap.size≤i)∧(∀i,J' i→(F i∨J i)∨w.heap.size≤i)
theorem rC_at {p k:Nat} (hp:p≤3) (hk:k≤1):rC (p:Int) (k:Int)=((10*p+k:Nat):Int):=by
 unfold rC fnd
 rw [if_pos (by omega),if_neg (by omega)]
 omega
theorem pcommit_at {p k:Nat} (hp:p≤3) (hk:k≤1) (w:World):Calls Tryz.prog 117 #[.int .i64 (p:Nat),.int .i64 (k:Nat)] w fun e w'=>e=.returned (.tuple #[.int .i64 ((10*p+k:Nat):Int),.bool true])∧Below w.heap.size w w':=by
 have h:=PlaN.commit_any (p:Int) (k:Int) w ⟨by omega,by omega⟩ ⟨by omega,by omega⟩
 rw [rC_at hp hk,PlaN.tv_pos (by omega),PlaN.tb_pos (by omega)] at h
 exact h
section
variable {w:World} {F J:Nat→Prop} {a g:Nat} {s:St} {l:Lg}
theorem sector_any (h:Lm w J a g l) (hp:l.p≤3) {i:Nat} (hi:i≤1):Calls Tryz.prog 185 #[.pointer (some ⟨a,0,none⟩),.int .i64 (i:Nat)] w fun e w'=>e=.returned (.int .i64 ((10*l.p+i:Nat):Int))∧Below w.heap.size w w':=by
 obtain⟨_,c1,_,_⟩:=h.cells
 have hlt:=h.blk.lt
 have HP:=Hz (fun w'=>pcommit_at hp hi w')
 obtain⟨q,hq⟩:∃q,q=10*l.p+i:=⟨_,rfl⟩
 obtain⟨p,hpp⟩:∃p,p=l.p:=⟨_,rfl⟩
 rw [←hq] at HP ⊢
 rw [←hpp] at HP c1
 clear h hp hi hq hpp
 go_enter Tryz.func185,Tryz.ntmps185
 go_wp2_with (go_at_call 117;refine (HP.out _).mono ?_;rintro e w1 ⟨rfl,hb1⟩;have HB:=Hz hb1;clear hb1)
 go_ret
 exact⟨rfl,HB.out⟩
theorem put1_a {s:St} (i:Nat) (bs:List Nat) (h:(spend s).1=false):put1 s i bs=((spend s).2,8):=by
 unfold put1
 rw [if_pos h]
theorem put1_b {s:St} (i:Nat) (bs:List Nat) (h:(spend s).1=true) (h2:(spend (wrote (spend s).2 i bs)).1=false):put1 s i bs=((spend (wrote (spend s).2 i bs)).2,8):=by
 unfold put1
 rw [if_neg (by rw [h];simp),if_pos h2]
theorem put1_c {s:St} (i:Nat) (bs:List Nat) (h:(spend s).1=true) (h2:(spend (wrote (spend s).2 i bs)).1=true):put1 s i bs=(lay (fun _=>true) (spend (wrote (spend s).2 i bs)).2,0):=by
 unfold put1
 rw [if_neg (by rw [h];simp),if_neg (by rw [h2];simp)]
theorem Got.from {w2:World} {v:Value} {s':St} {e:Ending} {w':World} (hb:Below w.heap.size w w2) (h:Got F g w2 v s' e w'):Got F g w v s' e w':=by
 obtain⟨he,F2,hD,hk2,hf2⟩:=h
 refine⟨he,F2,hD,(Keep.of_below hb).trans hk2 (fun i hi=>.inl hi),fun k h=>?_⟩
 rcases hf2 k h with h|h
 ·exact .inl h
 ·exact .inr (Nat.le_trans hb.size h)
theorem write_any (hD:Dk w F g s) (h:Lm w J a g l) (hF : ¬F a) (hp:l.p≤3) {i:Nat} (hi:i≤1) (hf:10*l.p+2≤s.S.length) {A:Option Addr} {c:Nat} {bs:List Nat} (hR:Rd w A 64 c (u8n bs)) (hA:∀b o,A=some ⟨b,o,none⟩→¬F b) (hL:s.L.length≤1000000) :
 Calls Tryz.prog 130 #[.pointer (some ⟨a,0,none⟩),.int .i64 (i:Nat),.slice A 64 c] w (Got F g w (.int .i64 (put1 s (10*l.p+i) bs).2) (put1 s (10*l.p+i) bs).1):=by
 obtain⟨c0,_,_,_⟩:=h.cells
 have hlt:=h.blk.lt
 have HS:=Hz (sector_any (h.below ((Below.refl w.heap.size w).drew)) hp hi)
 have H:=Hz h
 have HF:=Hz hF
 have hq:10*l.p+i<s.S.length:=by omega
 obtain⟨q,hqq⟩:∃q,q=10*l.p+i:=⟨_,rfl⟩
 rw [←hqq] at HS hq ⊢
 have HQ:=Hz hq
 clear h hF hp hi hf hq hqq
 cases hs:(spend s).1 with
 | false=>
   have HW:=Hz (fun w' (hb:Below w.heap.size w w')=>write_down F g s (q:Int) A c w' (hD.below hb) (by simp [inB,HQ.out]) hs)
   rw [put1_a q bs hs]
   clear hs hD hR hA hL
   go_enter Tryz.func130,Tryz.ntmps130
   go_wp2_with fail
   go_region_held3 (fun w'=>w'.cell? ⟨a,0,none⟩=some (.pointer (some ⟨g,0,none⟩)))
    (first
     | go_keep
     | (rw [hb1.cell (by simpa using hlt)];assumption)
     | (rw [World.cell?_of_block (HK2.out.block a hl1 HF.out)];assumption))
    ((first
      | (have hq:=HB1;clear hq;go_at_call 36;refine (HW.out _ HB1.out).mono ?_;rintro e w2 ⟨rfl,F1,hD1,hk1,hf1⟩;have HD2:=Hz hD1;have HK2:=Hz hk1;have HF2:=Hz hf1;clear hD1 hk1 hf1)
      | (go_at_call 185;refine HS.out.mono ?_;rintro e w1 ⟨rfl,hb1⟩;have HB1:=Hz (show Below w.heap.size w w1 from ((Below.refl w.heap.size w).drew).trans hb1);have hl1:a<w1.heap.size:=Nat.lt_of_lt_of_le hlt HB1.out.size)))
   go_wp2
   go_ret
   exact Got.from HB1.out ⟨rfl,F1,HD2.out,HK2.out,HF2.out⟩
 | true=>
   have HW:=Hz (fun w' (hb:Below w.heap.size w w')=>write_ok F g s q A c bs w' (hD.below hb) HQ.out (hR.below hb) hA hs (by omega))
   have HSP:=Hz hs
   have hm:=Hz hL
   clear hs hD hR hA hL
   go_enter Tryz.func130,Tryz.ntmps130
   go_wp2_with fail
   go_region_held3 (fun w'=>w'.cell? ⟨a,0,none⟩=some (.pointer (some ⟨g,0,none⟩)))
    (first
     | go_keep
     | (rw [hb1.cell (by simpa using hlt)];assumption)
     | (rw [World.cell?_of_block (HK2.out.block a hl1 HF.out)];assumption))
    ((first
      | (have hq:=HB1;clear hq;go_at_call 36;refine (HW.out _ HB1.out).mono ?_;rintro e w2 ⟨rfl,F1,hD1,hk1,hf1⟩;have HD2:=Hz hD1;have HK2:=Hz hk1;have HF2:=Hz hf1;clear hD1 hk1 hf1)
      | (go_at_call 185;refine HS.out.mono ?_;rintro e w1 ⟨rfl,hb1⟩;have HB1:=Hz (show Below w.heap.size w w1 from ((Below.refl w.heap.size w).drew).trans hb1);have hl1:a<w1.heap.size:=Nat.lt_of_lt_of_le hlt HB1.out.size)))
   have hw:({ (spend s).2 with L:=s.L++[(q,bs)] }:St)=wrote (spend s).2 q bs:=by
    unfold wrote
    rw [(spend_S s).2]
   have HD3:=Hz (show Dk w2 F1 g (wrote (spend s).2 q bs) from hw▸HD2.out)
   have d0:w2.cell? ⟨a,0,none⟩=some (.pointer (some ⟨g,0,none⟩)):=(World.cell?_of_block (HK2.out.block a hl1 HF.out)).trans ((HB1.out.cell hlt).trans c0)
   have HL:=Hz (show (wrote (spend s).2 q bs).L.length≤1000000000 from by
    show ((spend s).2.L++[(q,bs)]).length≤_
    have:=hm.out
    rw [(spend_S s).2,List.length_append]
    show s.L.length+1≤_
    omega)
   clear hw HD2 hm c0
   cases hs2:(spend (wrote (spend s).2 q bs)).1 with
   | false=>
     have HFL:=Hz (flush_down F1 g _ w2 HD3.out hs2)
     have HP:=Hz (put1_b q bs HSP.out hs2)
     clear hs2
     go_wp2_with (go_at_call 168;refine HFL.out.mono ?_;rintro e w3 ⟨rfl,F2,hD2,hk2,hf2⟩;have HG:=Hz (Got.trans HK2.out HF2.out (v:=.int .i64 8) ⟨rfl,F2,hD2,hk2,hf2⟩);clear hD2 hk2 hf2)
     go_ret
     rw [HP.out]
     exact Got.from HB1.out HG.out
   | true=>
     have HFL:=Hz (flush_ok F1 g _ w2 HD3.out hs2 HL.out)
     have HP:=Hz (put1_c q bs HSP.out hs2)
     clear hs2
     go_wp2_with (go_at_call 168;refine HFL.out.mono ?_;rintro e w3 ⟨rfl,F2,hD2,hk2,hf2⟩;have HG:=Hz (Got.trans HK2.out HF2.out (v:=.int .i64 0) ⟨rfl,F2,hD2,hk2,hf2⟩);clear hD2 hk2 hf2)
     go_ret
     rw [HP.out]
     exact Got.from HB1.out HG.out
end
theorem rok_none:rok Rc.none:=⟨⟨by decide,by decide⟩,⟨by decide,by decide⟩,⟨by decide,by decide⟩,⟨by decide,by decide⟩,⟨by decide,by decide⟩,⟨by decide,by decide⟩⟩
theorem logOf_any (F:Nat→Prop) (g:Nat) (s:St) (p:Nat) (w:World) (hD:Dk w F g s) (hp:p≤3) (hf:10*p+2≤s.S.length) :
 Calls Tryz.prog 151 #[.pointer (some ⟨g,0,none⟩),.int .i64 (p:Nat)] w fun e w'=>∃a,e=.returned (.tuple #[.pointer (some ⟨a,0,none⟩),.int .i64 0])∧w.heap.size≤a∧Lm w' (fun i=>i=a) a g ⟨p,Rc.none,0⟩∧Below w.heap.size w w':=by
 have H2:=Hz (fun w'=>pcommit_at (p:=p) (k:=1) hp (by omega) w')
 have H3:=Hz (fun w' (h:Below w.heap.size w w')=>len_any F g s w' (hD.below h))
 have hm:=hD.ok.most
 obtain⟨q,hq⟩:∃q,q=10*p+1:=⟨_,rfl⟩
 rw [←hq] at H2
 have hge:q<s.S.length:=by omega
 obtain⟨N,hN⟩:∃N,N=s.S.length:=⟨_,rfl⟩
 rw [←hN] at H3 hge hm
 clear hq hD hp hf hN
 go_enter Tryz.func151,Tryz.ntmps151
 go_wp2_with (first
  | (go_at_call 117;refine (H2.out _).mono ?_;rintro e w2 ⟨rfl,hb2⟩;have L2:=Hz hb2;clear hb2)
  | (go_at_call 30;refine (H3.out _ L2.out).mono ?_;rintro e w3 ⟨rfl,rfl⟩))
 go_ret2
 exact⟨w2.heap.size,rfl,L2.out.size,⟨Blk.new w2 169 (lgc g ⟨p,Rc.none,0⟩),fun _=>Iff.rfl,rok_none⟩,L2.out.alloc L2.out.size _⟩
theorem size_rc6:(Tryz.prog.info? 64).map (·.size)=some 6:=by kernel_rfl
theorem latest_any (J:Nat→Prop) (g a:Nat) (l:Lg) (w:World) (h:Lm w J a g l) :
 Calls Tryz.prog 56 #[.pointer (some ⟨a,0,none⟩)] w fun e w'=>e=.returned (rval l.r)∧Below w.heap.size w w':=by
 have L0:=Hz (show Below w.heap.size w (w.alloc (.cells (rcells Rc.none).toArray 64)) from (Below.refl _ _).alloc (Nat.le_refl _) _)
 have HB0:=Hz (show Blk (w.alloc (.cells (rcells Rc.none).toArray 64)) w.heap.size 64 (rcells Rc.none) from Blk.new w _ _)
 have HL:=Hz (h.below L0.out).blk
 clear h
 go_enter Tryz.func56,Tryz.ntmps56
 go_wp2_with (first
  | (refine wpList_load_part rfl 64 _ rfl a 2 rfl (rcells l.r) HL.out rfl Tryz.underlying64 rfl size_rc6 ?_)
  | (refine wpList_store_blk rfl 64 (.tmp 2) (.tmp 9) rfl w.heap.size rfl (rcells l.r) rfl HB0.out rfl size_rc6 (RecN.one_r _) ?_;intro w9 hB9 ho9))
 have e0:=hB9.out.cell (i:=0) rfl
 have e1:=hB9.out.cell (i:=1) rfl
 have e2:=hB9.out.cell (i:=2) rfl
 have e3:=hB9.out.cell (i:=3) rfl
 have e4:=hB9.out.cell (i:=4) rfl
 have e5:=hB9.out.cell (i:=5) rfl
 refine bodyPost_ret (v:=rval l.r) (by simp [results,Tryz.results56,go_sem,e0,e1,e2,e3,e4,e5]) rfl ?_
 exact⟨rfl,ho9.out.below L0.out (Nat.le_refl _) L0.out.size⟩
theorem latest_nil (w:World):Calls Tryz.prog 56 #[.pointer none] w fun e w'=>e=.returned (rval Rc.none)∧Below w.heap.size w w':=by
 have L0:=Hz (show Below w.heap.size w (w.alloc (.cells (rcells Rc.none).toArray 64)) from (Below.refl _ _).alloc (Nat.le_refl _) _)
 have HB0:=Hz (show Blk (w.alloc (.cells (rcells Rc.none).toArray 64)) w.heap.size 64 (rcells Rc.none) from Blk.new w _ _)
 go_enter Tryz.func56,Tryz.ntmps56
 go_wp2_with (refine wpList_store_blk rfl 64 (.tmp 2) (.tmp 5) rfl w.heap.size rfl (rcells Rc.none) rfl HB0.out rfl size_rc6 (RecN.one_r _) ?_;intro w9 hB9 ho9)
 have e0:=hB9.out.cell (i:=0) rfl
 have e1:=hB9.out.cell (i:=1) rfl
 have e2:=hB9.out.cell (i:=2) rfl
 have e3:=hB9.out.cell (i:=3) rfl
 have e4:=hB9.out.cell (i:=4) rfl
 have e5:=hB9.out.cell (i:=5) rfl
 refine bodyPost_ret (v:=rval Rc.none) (by simp [results,Tryz.results56,go_sem,e0,e1,e2,e3,e4,e5]) rfl ?_
 exact⟨rfl,ho9.out.below L0.out (Nat.le_refl _) L0.out.size⟩
end CmtN
namespace CmtN
open Go.RowKit Kit Byt Mem DskA DskC DskD DskE DskF RecM CmtM StgM
open RecA (rval rcells rok)
def nexty (l:Lg) (r:Rc):Rc:=⟨l.p,l.r.q+1,r.a,r.c,r.l,r.b⟩
def sv (s:St) (l:Lg) (r:Rc):St×Lg×Int:=
 if l.r.q=4294967295 then (s,l,4)
 else if (nexty l r).right then
  (if (put1 s (10*l.p+(1-l.i)) (shut (nexty l r).bytes)).2=0 then ((put1 s (10*l.p+(1-l.i)) (shut (nexty l r).bytes)).1,⟨l.p,nexty l r,1-l.i⟩,0)
   else ((put1 s (10*l.p+(1-l.i)) (shut (nexty l r).bytes)).1,l,(put1 s (10*l.p+(1-l.i)) (shut (nexty l r).bytes)).2))
 else (s,l,3)
structure LD (w:World) (F J:Nat→Prop) (g a:Nat) (s:St) (l:Lg):Prop where
 dk:Dk w F g s
 lm:Lm w J a g l
 dis:∀i,F i→¬J i
 most:s.L.length≤1000000
 fits:l.p≤3∧10*l.p+2≤s.S.length
 i1:l.i≤1
 q:0≤l.r.q∧l.r.q≤4294967295
section
variable {w w1:World} {F F1 J:Nat→Prop} {g a:Nat} {s s1:St} {l:Lg}
theorem Lgo.disk {v:Value} (h:LD w F J g a s l) (hD:Dk w1 F1 g s1) (hk:Keep F w w1) (hf:∀i,F1 i→F i∨w.heap.size≤i):Lgo F J g a w v s1 l (.returned v) w1:=
 ⟨rfl,F1,J,hD,h.lm.keep hk fun i hj hF=>h.dis i hF hj,fun i hF hj=>by
  rcases hf i hF with h4|h4
  ·exact h.dis i h4 hj
  ·have:=h.lm.lt i hj;omega,hk.mono fun _ _ h=>.inl h,fun i hi=>(hf i hi).imp .inl id,fun i hi=>.inl (.inr hi)⟩
theorem LD.fa (h:LD w F J g a s l) : ¬F a:=fun hF=>h.dis a hF ((h.lm.own a).2 rfl)
theorem rok_next (h:LD w F J g a s l) {r:Rc} (hr:rok r):rok (nexty l r):=by
 have h1:=h.fits.1
 have h2:=h.q
 exact⟨⟨by show -9223372036854775808≤(l.p:Int);omega,by show (l.p:Int)≤9223372036854775807;omega⟩,⟨by show -9223372036854775808≤l.r.q+1;omega,by show l.r.q+1≤9223372036854775807;omega⟩,hr.a,hr.c,hr.l,hr.b⟩
theorem save_at (h:LD w F J g a s l) (r:Rc) (hr:rok r) :
 Calls Tryz.prog 75 #[.pointer (some ⟨a,0,none⟩),rval r] w (Lgo F J g a w (.int .i64 (sv s l r).2.2) (sv s l r).1 (sv s l r).2.1):=by
 have H:=Hz h
 have L0:=Hz (show Below w.heap.size w (w.alloc (.cells #[.int .i64 r.p,.int .i64 r.q,.int .i64 r.a,.int .i64 r.c,.int .i64 r.l,.int .i64 r.b] 64)) from (Below.refl _ _).alloc (Nat.le_refl _) _)
 have HX0:=Hz (show Blk (w.alloc (.cells #[.int .i64 r.p,.int .i64 r.q,.int .i64 r.a,.int .i64 r.c,.int .i64 r.l,.int .i64 r.b] 64)) w.heap.size 64 (rcells r) from Blk.new w _ _)
 have HK:=Hz (rok_next h hr)
 have hal:=h.lm.blk.lt
 obtain⟨c0,c1,c3,c8⟩:=h.lm.cells
 have hq0:=h.q
 obtain⟨R,hR⟩:∃R,R=sv s l r:=⟨_,rfl⟩
 rw [←hR]
 have HR:=Hz hR
 obtain⟨q,hq⟩:∃q,q=l.r.q:=⟨_,rfl⟩
 obtain⟨p,hp⟩:∃p,p=l.p:=⟨_,rfl⟩
 have hp3:=h.fits.1
 have hi1:=h.i1
 rw [←hp] at c1 hp3
 rw [←hq] at c3 hq0
 have HQ:=Hz hq
 have HP:=Hz hp
 clear h hr hR hq hp
 by_cases hf:q=4294967295
 ·subst hf
  have hRR:R=(s,l,4):=by rw [HR.out];unfold sv;rw [if_pos HQ.out.symm]
  clear HR
  go_enter Tryz.func75,Tryz.ntmps75
  go_wp2
  go_ret
  rw [hRR]
  exact Lgo.disk H.out (H.out.dk.below L0.out) (Keep.of_below L0.out) fun i hi=>.inl hi
 ·obtain⟨y,hy⟩:∃y:Rc,y=⟨(p:Int),q+1,r.a,r.c,r.l,r.b⟩:=⟨_,rfl⟩
  have hyn:y=nexty l r:=by rw [hy,HP.out,HQ.out];rfl
  have LA:=Hz (show Below w.heap.size w (w.alloc (.cells (rcells y).toArray 64)).drew from ((Below.refl _ _).alloc (Nat.le_refl _) _).drew)
  have HXA:=Hz (show Blk (w.alloc (.cells (rcells y).toArray 64)).drew w.heap.size 64 (rcells y) from Blk.new w _ _)
  have HAL:(w.alloc (.cells #[.int .i64 (p:Nat),.int .i64 (q+1),.int .i64 r.a,.int .i64 r.c,.int .i64 r.l,.int .i64 r.b] 64)).drew=(w.alloc (.cells (rcells y).toArray 64)).drew:=by rw [hy];rfl
  have HALH:=Hz HAL
  rw [←hyn] at HK
  have HYN:=Hz hyn
  have HV:=Hz (show rval y=.agg #[.int .i64 (p:Nat),.int .i64 (q+1),.int .i64 r.a,.int .i64 r.c,.int .i64 r.l,.int .i64 r.b] from by rw [hy])
  clear hyn HAL hy
  by_cases hr:y.right
  ·have hRR:R=if (put1 s (10*l.p+(1-l.i)) (shut y.bytes)).2=0 then ((put1 s (10*l.p+(1-l.i)) (shut y.bytes)).1,⟨l.p,y,1-l.i⟩,0) else ((put1 s (10*l.p+(1-l.i)) (shut y.bytes)).1,l,(put1 s (10*l.p+(1-l.i)) (shut y.bytes)).2):=by
    rw [HR.out];unfold sv;rw [if_neg (by rw [←HQ.out];exact hf),←HYN.out,if_pos hr]
   have HPUT:=Hz (RecN.rput_yes y (w.alloc (.cells (rcells y).toArray 64)).drew HK.out hr)
   have HBL:=Hz (show (shut y.bytes).length=64 from shut_len (by rw [Rc.bytes_len];omega))
   obtain⟨P,hP⟩:∃P,P=put1 s (10*l.p+(1-l.i)) (shut y.bytes):=⟨_,rfl⟩
   have h08:=put1_08 s (10*l.p+(1-l.i)) (shut y.bytes)
   rw [←hP] at h08 hRR
   have HW:=Hz (fun w' (hb:Below w.heap.size w w') A c (hR:Rd w' A 64 c (u8n (shut y.bytes))) (hA:∀b o,A=some ⟨b,o,none⟩→¬F b)=>write_any (H.out.dk.below hb) (H.out.lm.below hb) H.out.fa H.out.fits.1 (i:=1-l.i) (by omega) H.out.fits.2 hR hA H.out.most)
   obtain⟨o,ho⟩:∃o,o=1-l.i:=⟨_,rfl⟩
   rw [←ho] at hP hRR HW
   have hcase:(l.i=0∧o=1)∨(l.i=1∧o=0):=by omega
   rw [←hP] at HW
   obtain⟨x,hx⟩:∃x,x=P.2:=⟨_,rfl⟩
   rw [←hx] at h08 hRR HW
   have HX:=Hz hx
   have Ho:=Hz ho
   have HPP:=Hz hP
   rw [HV.out] at HPUT
   obtain⟨i,hi⟩:∃i,i=l.i:=⟨_,rfl⟩
   rw [←hi] at c8 hcase
   have HI:=Hz hi
   have hFl:=Hz (H.out.dk.lt)
   have haJ:=Hz ((H.out.lm.own a).2 rfl)
   clear HR hr HV HX0 ho hP hx hi hi1
   rcases hcase with⟨rfl,rfl⟩|⟨rfl,rfl⟩ <;> rcases h08 with rfl|rfl
   all_goals
    go_enter Tryz.func75,Tryz.ntmps75
    go_wp2_with fail
    go_region
    go_wp2_with fail
    rw [HALH.out]
    refine HPUT.out.mono ?_
    rintro e w1 ⟨B,m,d,rfl,hown,hb1⟩
    obtain rfl:m=64:=by { have h1:=hown.1;rw [u8n_len,HBL.out] at h1;omega }
    have L1:=Hz (LA.out.trans (hb1.mono LA.out.size))
    have HX1:=Hz (HXA.out.below hb1)
    have HBF:=Hz (show ∀b o,B=some ⟨b,o,none⟩→¬F b from fun b o hB hF=>by
     have h1:=(hown.lt b (by rw [hB];rfl)).1
     have h2:=hFl.out b hF
     have h3:=LA.out.size
     omega)
    have HRD:=Hz (Rd.own hown)
    have b8:=(L1.out.cell (p:=⟨a,8,none⟩) hal).trans c8
    clear hb1 hown
    go_wp2_with fail
    refine (HW.out w1 L1.out B d HRD.out HBF.out).mono ?_
    rintro e w2 ⟨rfl,F1,hD1,hk1,hf1⟩
    have HK2:=Hz ((Keep.of_below L1.out).trans hk1 fun i hi=>.inl hi)
    have HF2:=Hz (show ∀i,F1 i→F i∨w.heap.size≤i from fun i hi=>(hf1 i hi).imp id fun h=>Nat.le_trans L1.out.size h)
    have HD2:=Hz hD1
    have HX2:=Hz (hk1.blk HX1.out fun hF=>by have:=hFl.out _ hF;omega)
    have HL2:=Hz (hk1.blk (H.out.lm.below L1.out).blk H.out.fa)
    clear hD1 hk1 hf1
   rotate_left 1
   iterate 2
    ·go_wp2
     go_ret
     rw [hRR,if_neg (by omega)]
     exact Lgo.disk H.out HD2.out HK2.out HF2.out
    rotate_left 1
   all_goals
    go_wp2_with (first
     | (refine wpList_load_blk rfl 64 _ rfl w.heap.size rfl HX2.out Tryz.underlying64 rfl size_rc6 ?_)
     | (refine wpList_store_part rfl 64 (.tmp 57) (.tmp 54) rfl a 2 rfl (rcells y) rfl HL2.out (by simp [lgc,rcells]) size_rc6 (RecN.one_r _) ?_;intro w3 hB3 ho3;have e8:=hB3.out.cell (i:=8) rfl;have f8:=hB3.out.frozen 8))
    go_ret
    rw [hRR,if_pos trivial]
    have hB4:=hB3.out.set 8 (.int .i64 ((1-l.i:Nat):Int))
    have hk4:Keep (fun i=>i=a) w2 (w3.setCell ⟨a,8,none⟩ (.int .i64 ((1-l.i:Nat):Int))):=(Keep.only (F:=fun i=>i=a) ho3.out rfl).trans (Keep.set (F:=fun i=>i=a) w3 8 _ rfl) fun i hi=>.inl hi
    rw [←Ho.out] at hB4 hk4
    have haF1 : ¬F1 a:=fun hF=>by
     rcases HF2.out a hF with h1|h1
     ·exact H.out.fa h1
     ·omega
    refine⟨rfl,F1,J,HD2.out.keep hk4 (fun i hF (e:i=a)=>haF1 (e▸hF)),⟨hB4,H.out.lm.own,HK.out⟩,fun i hF hj=>haF1 ((H.out.lm.own i).1 hj▸hF),?_,fun i hi=>(HF2.out i hi).imp .inl id,fun i hi=>.inl (.inr hi)⟩
    exact (HK2.out.mono (fun _ _ h=>Or.inl h)).trans (hk4.mono (G:=fun i=>F i∨J i) fun i _ (e:i=a)=>.inr (e▸haJ.out)) fun i hi=>.inl hi
  ·have hRR:R=(s,l,3):=by rw [HR.out];unfold sv;rw [if_neg (by rw [←HQ.out];exact hf),if_neg (by rw [←HYN.out];exact hr)]
   have HPUT:=Hz (RecN.rput_no y (w.alloc (.cells (rcells y).toArray 64)).drew HK.out hr)
   rw [HV.out] at HPUT
   clear HR hr HV HK HXA HX0
   go_enter Tryz.func75,Tryz.ntmps75
   go_wp2_with fail
   go_region
   go_wp2_with fail
   rw [HALH.out]
   refine HPUT.out.mono ?_
   rintro e w1 ⟨rfl,hb1⟩
   have L1:=Hz (LA.out.trans (hb1.mono LA.out.size))
   clear hb1
   go_wp2
   go_ret
   rw [hRR]
   exact Lgo.disk H.out (H.out.dk.below L1.out) (Keep.of_below L1.out) fun i hi=>.inl hi
end
end CmtN
namespace CmtN
open Go.RowKit Kit Byt Mem DskA DskC DskD DskE DskF RecM CmtM StgM
open RecA (rval rcells rok)
def best (c d:Rc):Nat:=if c.q<d.q then 1 else 0
theorem newest_any (c d:Rc) (w:World):Calls Tryz.prog 153 #[.agg (rcells c++rcells d).toArray] w fun e w'=>e=.returned (.int .i64 (best c d:Nat))∧Below w.heap.size w w':=by
 show Calls _ _ #[.agg #[.int .i64 c.p,.int .i64 c.q,.int .i64 c.a,.int .i64 c.c,.int .i64 c.l,.int .i64 c.b,.int .i64 d.p,.int .i64 d.q,.int .i64 d.a,.int .i64 d.c,.int .i64 d.l,.int .i64 d.b]] w _
 have L0:=Hz (show Below w.heap.size w (w.alloc (.cells #[.int .i64 c.p,.int .i64 c.q,.int .i64 c.a,.int .i64 c.c,.int .i64 c.l,.int .i64 c.b,.int .i64 d.p,.int .i64 d.q,.int .i64 d.a,.int .i64 d.c,.int .i64 d.l,.int .i64 d.b] 216)) from (Below.refl _ _).alloc (Nat.le_refl _) _)
 have B0:=Hz (show Blk (w.alloc (.cells #[.int .i64 c.p,.int .i64 c.q,.int .i64 c.a,.int .i64 c.c,.int .i64 c.l,.int .i64 c.b,.int .i64 d.p,.int .i64 d.q,.int .i64 d.a,.int .i64 d.c,.int .i64 d.l,.int .i64 d.b] 216)) w.heap.size 216 (rcells c++rcells d) from Blk.new w _ _)
 go_enter Tryz.func153,Tryz.ntmps153
 go_wp2
 obtain⟨w0,hw0⟩:∃w0,w0=w.alloc (.cells #[.int .i64 c.p,.int .i64 c.q,.int .i64 c.a,.int .i64 c.c,.int .i64 c.l,.int .i64 c.b,.int .i64 d.p,.int .i64 d.q,.int .i64 d.a,.int .i64 d.c,.int .i64 d.l,.int .i64 d.b] 216):=⟨_,rfl⟩
 rw [←hw0] at L0 B0 ⊢
 clear hw0
 go_loopw [3,5] (fun b i wr=>∃(k m:Nat),k≤2∧i=.int .i64 k∧b=.int .i64 m∧Hid (Below w.heap.size w wr)∧Hid (Blk wr w.heap.size 216 (rcells c++rcells d))∧Hid ((k<2→m=0)∧(k=2→m=best c d))) (fun _ i _=>2-(intOf i).toNat)
 case atStart=>exact⟨0,0,by omega,rfl,rfl,L0,B0,Hz ⟨fun _=>rfl,fun h=>by omega⟩⟩
 case round=>
  obtain⟨k,m,hk,rfl,rfl,HL,HB,HM⟩:=hrel
  have x1:wr.cell? ⟨w.heap.size,1,none⟩=some (.int .i64 c.q):=HB.out.cell rfl
  have x7:wr.cell? ⟨w.heap.size,7,none⟩=some (.int .i64 d.q):=HB.out.cell rfl
  rcases (show k=0∨k=1∨k=2 by omega) with rfl|rfl|rfl
  ·obtain rfl:m=0:=HM.out.1 (by omega)
   go_wp2
   go_region
   go_wp2
   go_roundw
   case rel=>exact⟨1,0,by omega,by go_num,by go_num,Hz HL.out.drew,Hz HB.out,Hz ⟨fun _=>rfl,fun h=>by omega⟩⟩
   case measure=>simp [intOf]
  ·obtain rfl:m=0:=HM.out.1 (by omega)
   by_cases hlt:c.q<d.q
   ·have HT:=Hz (show 1=best c d from by unfold best;rw [if_pos hlt])
    go_wp2
    go_region
    go_wp2
    go_roundw
    case rel=>exact⟨2,1,by omega,by go_num,by go_num,Hz HL.out.drew,Hz HB.out,Hz ⟨fun h=>by omega,fun h=>HT.out⟩⟩
    case measure=>simp [intOf]
   ·have HT:=Hz (show 0=best c d from by unfold best;rw [if_neg hlt])
    go_wp2
    go_region
    go_wp2
    go_roundw
    case rel=>exact⟨2,0,by omega,by go_num,by go_num,Hz HL.out.drew,Hz HB.out,Hz ⟨fun h=>by omega,fun h=>HT.out⟩⟩
    case measure=>simp [intOf]
  ·obtain rfl:m=best c d:=HM.out.2 rfl
   go_wp2
   go_ret
   exact⟨rfl,HL.out⟩
end CmtN
end Go.Proofs.YtkepomnbhnnliaaGreatDoor
