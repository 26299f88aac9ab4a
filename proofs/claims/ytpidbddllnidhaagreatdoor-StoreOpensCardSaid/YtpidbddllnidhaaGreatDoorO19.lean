/- Parts of the proof, each under the conditions that it names. -/
import Derived.Test.YtpidbddllnidhaaGreatDoorO18
set_option maxRecDepth 100000
set_option maxHeartbeats 12800000
namespace Go.Proofs.YtpidbddllnidhaaGreatDoor
open Go.RowKit
namespace CmtN
open Mem DskA DskD RecM CmtM
open RecA (rval rcells rok)
theorem Hk {p:Int} {xs:List Nat} (h:(cp p xs).q<1):cp p xs=Rc.none:=by
 unfold cp at h ⊢
 split
 ·rfl
 ·rename_i h0
  rw [if_neg h0] at h
  have h1:=Xh (xs:=xs) (Mc_ fun e=>h0 (.inl e))
  unfold Rc.right at h1
  omega
theorem Nk {r:Rc} (h:r.right):rok r:=by
 have h1:=h
 unfold Rc.right at h1
 refine⟨⟨?_,?_⟩,⟨?_,?_⟩,⟨?_,?_⟩,⟨?_,?_⟩,⟨?_,?_⟩,⟨?_,?_⟩⟩ <;> omega
theorem rok_cp (p:Int) (xs:List Nat):rok (cp p xs):=by
 by_cases h:1≤(cp p xs).q
 ·exact Nk (cp_right h)
 ·rw [Hk (by omega)];exact Yv
theorem Uw (F:Nat→Prop) (g:Nat) (s:St) (p:Nat) (w:World) (hD:Dk w F g s) (hp:p≤3) (hf:10*p+2≤s.S.length) (hu:s.down=false) (hL:s.L.length≤1000000) (hb:∀i,byt (DskD.now s i)) :
 Calls Tryz.prog 70 #[.pointer (some ⟨g,0,none⟩),.int .i64 (p:Nat)] w fun e w'=>Bw w w'∧
  ((1≤(lO s p).r.q∧∃a J,e=.returned (.tuple #[.pointer (some ⟨a,0,none⟩),.int .i64 0])∧Lm w' J a g (lO s p)∧(∀i,J i→w.heap.size≤i))∨
   ((lO s p).r.q<1∧e=.returned (.tuple #[.pointer none,.int .i64 5]))):=by
 have H1:=Hz (logOf_any F g s p w hD hp hf)
 have H2:=Hz (fun (w':World) a (hb':Bw w w') (h:Lm w' (fun i=>i=a) a g ⟨p,Rc.none,0⟩)=>held_any (hD.below hb') h hp hf hu hL hb)
 have HO:=Hz (show lO s p=⟨p,if (cp p (now s (10*p))).q<(cp p (now s (10*p+1))).q then cp p (now s (10*p+1)) else cp p (now s (10*p)),best (cp p (now s (10*p))) (cp p (now s (10*p+1)))⟩ from by
  unfold lO late best
  split <;> rfl)
 have HKC:=Hz (And.intro (rok_cp p (now s (10*p))) (rok_cp p (now s (10*p+1))))
 have HNC:=Hz (And.intro (@Hk p (now s (10*p))) (@Hk p (now s (10*p+1))))
 obtain⟨R,hR⟩:∃R,R=lO s p:=⟨_,rfl⟩
 rw [←hR] at HO ⊢
 obtain⟨c,hc⟩:∃c,c=cp (p:Int) (now s (10*p)):=⟨_,rfl⟩
 obtain⟨d,hd⟩:∃d,d=cp (p:Int) (now s (10*p+1)):=⟨_,rfl⟩
 simp only [←hc,←hd] at H2 HO HKC HNC
 clear hR hc hd hD hp hf hu hL hb
 obtain⟨m,hm⟩:∃m,m=best c d:=⟨_,rfl⟩
 obtain⟨r,hr⟩:∃r,r=if c.q<d.q then d else c:=⟨_,rfl⟩
 have HN:=Hz (fun w'=>qjl c d w')
 rw [←hm] at HN HO
 rw [←hr] at HO
 have hcase:(m=0∧r=c)∨(m=1∧r=d):=by
  rw [hm,hr];unfold best
  split
  ·exact .inr ⟨rfl,rfl⟩
  ·exact .inl ⟨rfl,rfl⟩
 have HRK:=Hz (show rok r from by rcases hcase with⟨_,e⟩|⟨_,e⟩ <;> rw [e];exact HKC.o.1;exact HKC.o.2)
 have HRN:=Hz (show r.q<1→r=Rc.none from by rcases hcase with⟨_,e⟩|⟨_,e⟩ <;> rw [e];exact HNC.o.1;exact HNC.o.2)
 clear hm hr HKC HNC
 have HDR:=Hz (show ((rcells c++rcells d).drop (m*6)).take 6=rcells r from by rcases hcase with⟨rfl,rfl⟩|⟨rfl,rfl⟩ <;> rfl)
 have hm1:m≤1:=by omega
 clear hcase
 obtain⟨b,hb⟩:∃b:Bool,b=true↔r=Rc.none:=RecA.Q2 _
 have hE:∀w:World,(Op.equalIn 10000 66 (.agg #[.int .i64 r.p,.int .i64 r.q,.int .i64 r.a,.int .i64 r.c,.int .i64 r.l,.int .i64 r.b]) (.agg #[.int .i64 0,.int .i64 0,.int .i64 0,.int .i64 0,.int .i64 0,.int .i64 0])).run Tryz.prog w=.ok b w:=fun w=>CmtC.req r Rc.none b hb w
 have HBB:=Hz (show (b=true→r.q<1)∧(b=false→1≤r.q) from⟨fun h=>by rw [hb.1 h];show (0:Int)<1;omega,fun h=>by
  refine Mc_ fun h1=>?_
  have:=hb.2 (HRN.o (by omega))
  rw [h] at this
  cases this⟩)
 clear hb
 cases b
 all_goals
  go_enter Tryz.func70,Tryz.ntmps70
  go_wp2_with (first
   | (go_at_call 115;refine H1.o.mono ?_;rintro e w1 ⟨a,rfl,ha,hlm,hb1⟩;have L1:=Hz hb1;have HA:=Hz ha;have HM1:=Hz hlm;clear hb1 ha hlm)
   | (go_at_call 116;refine (H2.o w1 a L1.o HM1.o).mono ?_;rintro e w2 ⟨rfl,hb2⟩;have L2:=Hz (L1.o.trans (hb2.mono L1.o.size));have HM2:=Hz (HM1.o.below hb2);clear hb2)
   | (refine Qq rfl 185 (.tmp 8) (.tmp 21) rfl w2.heap.size rfl (rcells c++rcells d) rfl (Blk.new w2 185 zer) rfl Yu (one_two c d) ?_;intro w3 hB3 ho3;have L3:=Hz (show Bw w w3 from ho3.o.below (L2.o.alloc L2.o.size _) L2.o.size (L2.o.alloc L2.o.size _).size);have hm2:=HM2.o.blk.lt;have HM3:=Hz (show Blk w3 a 146 (lgc g ⟨p,Rc.none,0⟩) from ho3.o.blk (HM2.o.blk.alloc _) (by omega));have HX3:=Hz hB3.o;clear hB3 ho3;obtain⟨xb,hxb⟩:∃xb,xb=w2.heap.size:=⟨_,rfl⟩;rw [←hxb] at HX3 hm2 ⊢;clear hxb)
   | (refine Qj rfl 185 _ rfl xb rfl HX3.o Tryz.underlying185 rfl Yu ?_)
   | (go_at_call 117;refine (HN.o w3).mono ?_;rintro e w4 ⟨rfl,hb4⟩;have L4:=Hz (L3.o.trans (hb4.mono L3.o.size));have HM4:=Hz (HM3.o.below hb4);have HX4:=Hz (HX3.o.below hb4);have e8:=HM4.o.cell (i:=8) rfl;have f8:=HM4.o.frozen 8;have HM5:=Hz (show Blk (w4.setCell ⟨a,8,none⟩ (.int .i64 (m:Nat))) a 146 (lgc g ⟨p,Rc.none,m⟩) from HM4.o.set 8 _);have hne:xb≠a:=(by omega);have HX5:=Hz (HX4.o.far (p:=⟨a,8,none⟩) hne (.int .i64 (m:Nat)));have hs4:=HA.o;have L5:=Hz (show Bw w (w4.setCell ⟨a,8,none⟩ (.int .i64 (m:Nat))) from (Only.set w4 a 8 _).below L4.o HA.o L4.o.size);clear hb4)
   | (refine Qz rfl 66 (.tmp 36) rfl xb (m*6) rfl [.int .i64 r.p,.int .i64 r.q,.int .i64 r.a,.int .i64 r.c,.int .i64 r.l,.int .i64 r.b] HX5.o HDR.o Tryz.underlying66 rfl Jj ?_)
   | (refine Qk rfl 66 (.tmp 39) (.tmp 37) rfl a 2 rfl (rcells r) rfl HM5.o (by simp [lgc,rcells]) Jj (RecN.one_r _) ?_;intro w6 hB6 ho6;have HM6:=Hz (show Blk w6 a 146 (lgc g ⟨p,r,m⟩) from hB6.o);have L6:=Hz (show Bw w w6 from ho6.o.below L5.o HA.o L5.o.size);clear hB6 ho6)
   | (refine Qz rfl 66 (.tmp 42) rfl a 2 rfl [.int .i64 r.p,.int .i64 r.q,.int .i64 r.a,.int .i64 r.c,.int .i64 r.l,.int .i64 r.b] HM6.o rfl Tryz.underlying66 rfl Jj ?_))
 ·have HQ:=Hz HBB.o.2
  go_ret2
  rw [HO.o]
  refine⟨L6.o,.inl ⟨by simpa using HQ.o,a,(fun i=>i=a),rfl,⟨HM6.o,fun _=>Iff.rfl,HRK.o⟩,fun i hi=>?_⟩⟩
  rw [show i=a from hi]
  exact HA.o
 ·have HQ:=Hz HBB.o.1
  go_ret2
  rw [HO.o]
  exact⟨L6.o,.inr ⟨by simpa using HQ.o,rfl⟩⟩
end CmtN
namespace CmtN
open Kit Byt Mem DskA DskF RecM CmtM StgM
open RecA (rval rcells rok)
open DskB (zs zs_len)
theorem sv_lS {s:St} {l:Lg} (r:Rc) (hp:l.r.p=l.p) (hq:l.r.q≤4294967295):sv s l r=lS s l r:=by
 have e:nextR l.r r=nexty l r:=by unfold nextR nexty;rw [hp]
 by_cases h:l.r.q=4294967295
 ·have e2:nx l.r r=(l.r,4):=by unfold nx;rw [if_pos (by omega)]
  unfold sv lS
  rw [if_pos h,e2,if_pos (by show (4:Int)≠0;omega)]
 ·by_cases hr:(nexty l r).right
  ·have e2:nx l.r r=(nexty l r,0):=by unfold nx;rw [if_neg (by omega),e,if_pos hr]
   unfold sv lS
   rw [if_neg h,if_pos hr,e2,e]
   rcases Gq s (10*l.p+(1-l.i)) (shut (nexty l r).bytes) with h0|h0
   ·rw [if_pos h0,if_neg (show ¬((nexty l r,(0:Int)).2≠0) from by simp),if_pos h0]
   ·rw [if_neg (show ¬(put1 s (10*l.p+(1-l.i)) (shut (nexty l r).bytes)).2=0 from by omega),if_neg (show ¬((nexty l r,(0:Int)).2≠0) from by simp),if_neg (show ¬(put1 s (10*l.p+(1-l.i)) (shut (nexty l r).bytes)).2=0 from by omega),h0]
  ·have e2:nx l.r r=(l.r,3):=by unfold nx;rw [if_neg (by omega),e,if_neg hr]
   unfold sv lS
   rw [if_neg h,if_neg hr,e2,if_pos (by show (3:Int)≠0;omega)]
theorem LS.ld {w:World} {F J:Nat→Prop} {g a:Nat} {s:St} {l:Lg} (h:LS w F J g a s l):LD w F J g a s l:=by
 have h1:=h.rec_.1
 unfold Rc.right at h1
 exact⟨h.dk,h.lm,h.dis,h.most,h.fits,h.rec_.2.2,by omega⟩
theorem qqt (F J:Nat→Prop) (g a:Nat) (s:St) (l:Lg) (r:Rc) (w:World) (h:LS w F J g a s l) (hr:rok r) :
 Calls Tryz.prog 57 #[.pointer (some ⟨a,0,none⟩),rval r] w (Lgo F J g a w (.int .i64 (lS s l r).2.2) (lS s l r).1 (lS s l r).2.1):=by
 have h1:=h.ld.q
 rw [←sv_lS r h.rec_.2.1 h1.2]
 exact save_at h.ld r hr
theorem sv_one (s:St) {p:Nat} (hp:p≤3):sv s ⟨p,Rc.none,1⟩ Rc.none=if (put1 s (10*p) (shut (one p).bytes)).2=0 then ((put1 s (10*p) (shut (one p).bytes)).1,⟨p,one p,0⟩,0) else ((put1 s (10*p) (shut (one p).bytes)).1,⟨p,Rc.none,1⟩,(put1 s (10*p) (shut (one p).bytes)).2):=by
 have e:nexty ⟨p,Rc.none,1⟩ Rc.none=one p:=rfl
 unfold sv
 rw [e,if_neg (by show ¬(0:Int)=4294967295;omega),if_pos (one_right hp)]
 rfl
theorem Ng {s:St} {i:Nat} {bs:List Nat} (h:(put1 s i bs).2=0):(put1 s i bs).1.L=[]:=by
 unfold put1 at h ⊢
 split
 ·rename_i h0;rw [if_pos h0] at h;exact absurd h (by show ¬(8:Int)=0;omega)
 ·rename_i h0
  rw [if_neg h0] at h
  split
  ·rename_i h1;rw [if_pos h1] at h;exact absurd h (by show ¬(8:Int)=0;omega)
  ·rfl
theorem qjm (F:Nat→Prop) (g:Nat) (s:St) (p:Nat) (w:World) (hD:Dk w F g s) (hp:p≤3) (hf:10*p+2≤s.S.length) (_hu:s.down=false) (hL:s.L.length≤1000000) :
 Calls Tryz.prog 66 #[.pointer (some ⟨g,0,none⟩),.int .i64 (p:Nat)] w fun e w'=>∃F',Dk w' F' g (lF s p).1∧Keep F w w'∧(∀i,F' i→F i∨w.heap.size≤i)∧
  (((lF s p).2=0∧∃a J,e=.returned (.tuple #[.pointer (some ⟨a,0,none⟩),.int .i64 0])∧Lm w' J a g ⟨p,one p,0⟩∧(∀i,J i→w.heap.size≤i)∧(∀i,F' i→¬J i))∨
   ((lF s p).2=8∧e=.returned (.tuple #[.pointer none,.int .i64 8]))):=by
 obtain⟨Z,hZ⟩:∃Z,Z=(u8n (zs 64)).toArray:=⟨_,rfl⟩
 have hmk:=mk64
 simp only [←hZ] at hmk
 have HBZ:=Hz (show ∀w':World,Rd (w'.alloc (.cells Z 5)) (some ⟨w'.heap.size,0,none⟩) 64 64 (u8n (zs 64)) from fun w'=>blk_rd (t:=5) (by rw [hZ];exact Blk.new w' _ _) (zs_len 64) (by omega))
 have H1:=Hz (logOf_any F g s p w hD hp hf)
 have HD:=Hz hD
 have HF:=Hz (And.intro hp (And.intro hf hL))
 clear hZ hD hp hf hL
 go_enter Tryz.func66,Tryz.ntmps66
 go_wp2_with (go_at_call 115;refine H1.o.mono ?_;rintro e w1 ⟨a,rfl,ha,hlm,hb1⟩;have L1:=Hz hb1;have HA:=Hz ha;have HM1:=Hz hlm;have e8:=HM1.o.blk.cell (i:=8) rfl;have f8:=HM1.o.blk.frozen 8;clear hb1 ha hlm)
 have HM2:=Hz (show Lm (w1.setCell ⟨a,8,none⟩ (.int .i64 1)) (fun i=>i=a) a g ⟨p,Rc.none,1⟩ from⟨HM1.o.blk.set 8 _,fun _=>Iff.rfl,Yv⟩)
 have L2:=Hz (show Bw w (w1.setCell ⟨a,8,none⟩ (.int .i64 1)) from (Only.set w1 a 8 _).below L1.o HA.o L1.o.size)
 obtain⟨w2,hw2⟩:∃w2,w2=w1.setCell ⟨a,8,none⟩ (.int .i64 1):=⟨_,rfl⟩
 rw [←hw2] at HM2 L2 ⊢
 clear hw2 e8 f8 HM1 L1
 have e8:w2.cell? ⟨a,8,none⟩=some (.int .i64 1):=HM2.o.blk.cell rfl
 have hal:=HM2.o.blk.lt
 obtain⟨P,hP⟩:∃P,P=put1 s (10*p+1) (zs 64):=⟨_,rfl⟩
 have h08:=Gq s (10*p+1) (zs 64)
 have HW:=Hz (fun (w':World) (hb:Bw w2 w') A (hR:Rd w' A 64 64 (u8n (zs 64))) (hA:∀b o,A=some ⟨b,o,none⟩→¬F b)=>write_any (i:=1) (HD.o.below (L2.o.trans (hb.mono L2.o.size))) (HM2.o.below hb) (fun hF=>by have:=HD.o.lt a hF;have:=HA.o;omega) HF.o.1 (Mr 1) HF.o.2.1 hR hA HF.o.2.2)
 dsimp only at HW
 rw [←hP] at HW h08
 have HP:=Hz hP
 have HLF:=Hz (show lF s p=if P.2=0 then put1 P.1 (10*p) (shut (one p).bytes) else (P.1,8) from by rw [hP];rfl)
 obtain⟨x,hx⟩:∃x,x=P.2:=⟨_,rfl⟩
 rw [←hx] at HW h08 HLF
 have HX:=Hz hx
 clear hP hx
 have hlt0:∀b,w2.heap.size≤b→¬F b:=fun b hb hF=>by have:=HD.o.lt b hF;have:=L2.o.size;omega
 have HLT:=Hz hlt0
 clear hlt0
 have hsv:=sv_one P.1 HF.o.1
 obtain⟨Q,hQ⟩:∃Q,Q=put1 P.1 (10*p) (shut (one p).bytes):=⟨_,rfl⟩
 have hq08:=Gq P.1 (10*p) (shut (one p).bytes)
 rw [←hQ] at hsv hq08 HLF
 obtain⟨y,hy⟩:∃y,y=Q.2:=⟨_,rfl⟩
 rw [←hy] at hsv hq08
 have HY:=Hz hy
 have HSV:=Hz hsv
 have LZ:=Hz (show Bw w2 (w2.alloc (.cells Z 5)).drew from ((Mb _ _).alloc (Mr _) _).drew)
 have HRZ:=Hz (show Rd (w2.alloc (.cells Z 5)).drew (some ⟨w2.heap.size,0,none⟩) 64 64 (u8n (zs 64)) from HBZ.o w2)
 have HAZ:=Hz (show ∀b o,(some ⟨w2.heap.size,0,none⟩:Option Addr)=some ⟨b,o,none⟩→¬F b from fun b o h=>by
  injection h with h
  injection h with h _
  exact HLT.o b (by omega))
 have haF : ¬F a:=fun hF=>by have:=HD.o.lt a hF;have:=HA.o;omega
 have HAF:=Hz haF
 clear hQ hy hsv haF
 rcases h08 with rfl|rfl
 rcases hq08 with rfl|rfl
 ·rw [if_pos rfl] at HSV HLF
  go_wp2_with fail
  go_region_held3 (fun w'=>w'.cell? ⟨a,8,none⟩=some (.int .i64 1))
   (first
    | go_keep
    | exact HK3.o)
   ((go_at_call 99;refine (HW.o _ LZ.o _ HRZ.o HAZ.o).mono ?_;rintro e w3 ⟨rfl,F1,hD1,hk1,hf1⟩;have HM3:=Hz ((HM2.o.below LZ.o).keep hk1 fun i hi hF=>HAF.o ((show i=a from hi)▸hF));have HK3:=Hz (show w3.cell? ⟨a,8,none⟩=some (.int .i64 1) from HM3.o.blk.cell rfl);have HD3:=Hz hD1;have KK3:=Hz ((Keep.of_below (L2.o.trans (LZ.o.mono L2.o.size))).trans hk1 fun i hi=>.inl hi);have FF3:=Hz (show ∀i,F1 i→F i∨w.heap.size≤i from fun i hi=>(hf1 i hi).imp id fun h=>Ml (Ml L2.o.size LZ.o.size) h);have hs3:=hk1.size;have HNA:=Hz (show ∀i,F1 i→i≠a from fun i hi e=>by { rcases hf1 i hi with h|h;exact HAF.o (e▸h);have:=LZ.o.size;have:w2.heap.size≤i:=Ml LZ.o.size h;omega });clear hD1 hk1 hf1))
  have HLD:=Hz (show LD w3 F1 (fun i=>i=a) g a P.1 ⟨p,Rc.none,1⟩ from⟨HD3.o,HM3.o,HNA.o,by rw [HP.o,Ng (by rw [←HP.o,←HX.o])];exact Nat.zero_le _,⟨HF.o.1,by rw [HP.o,U3];exact HF.o.2.1⟩,Mr 1,⟨by show (0:Int)≤0;omega,by show (0:Int)≤4294967295;omega⟩⟩)
  have HSA:=Hz (save_at HLD.o Rc.none Yv)
  rw [HSV.o] at HSA
  go_wp2_with (go_at_call 57;refine HSA.o.mono ?_;rintro e w4 ⟨rfl,F2,J2,hD4,hM4,hdj,hk4,hf4,hj4⟩;have HD4:=Hz hD4;have HM4:=Hz hM4;have HDJ:=Hz hdj;have KK4:=Hz hk4;have FF4:=Hz hf4;clear hD4 hM4 hdj hk4 hf4 hj4)
  go_ret2
  rw [HLF.o]
  have ha:=HA.o
  have hs0:=L2.o.size
  have hs1:=LZ.o.size
  refine⟨F2,HD4.o,?_,fun i hi=>?_,.inl ⟨HY.o.symm,a,J2,rfl,HM4.o,fun i hi=>by rw [(HM4.o.own i).1 hi];exact ha,HDJ.o⟩⟩
  ·refine KK3.o.trans KK4.o fun i hi=>?_
   rcases hi with h|h
   ·exact FF3.o i h
   ·exact .inr (by omega)
  ·rcases FF4.o i hi with (h|h)|h
   ·exact FF3.o i h
   ·exact .inr (by omega)
   ·exact .inr (Ml (Ml hs0 hs1) (Ml hs3 h))
 ·rw [if_neg (show ¬(8:Int)=0 by omega)] at HSV
  rw [if_pos rfl] at HLF
  go_wp2_with fail
  go_region_held3 (fun w'=>w'.cell? ⟨a,8,none⟩=some (.int .i64 1))
   (first
    | go_keep
    | exact HK3.o)
   ((go_at_call 99;refine (HW.o _ LZ.o _ HRZ.o HAZ.o).mono ?_;rintro e w3 ⟨rfl,F1,hD1,hk1,hf1⟩;have HM3:=Hz ((HM2.o.below LZ.o).keep hk1 fun i hi hF=>HAF.o ((show i=a from hi)▸hF));have HK3:=Hz (show w3.cell? ⟨a,8,none⟩=some (.int .i64 1) from HM3.o.blk.cell rfl);have HD3:=Hz hD1;have KK3:=Hz ((Keep.of_below (L2.o.trans (LZ.o.mono L2.o.size))).trans hk1 fun i hi=>.inl hi);have FF3:=Hz (show ∀i,F1 i→F i∨w.heap.size≤i from fun i hi=>(hf1 i hi).imp id fun h=>Ml (Ml L2.o.size LZ.o.size) h);have hs3:=hk1.size;have HNA:=Hz (show ∀i,F1 i→i≠a from fun i hi e=>by { rcases hf1 i hi with h|h;exact HAF.o (e▸h);have:=LZ.o.size;have:w2.heap.size≤i:=Ml LZ.o.size h;omega });clear hD1 hk1 hf1))
  have HLD:=Hz (show LD w3 F1 (fun i=>i=a) g a P.1 ⟨p,Rc.none,1⟩ from⟨HD3.o,HM3.o,HNA.o,by rw [HP.o,Ng (by rw [←HP.o,←HX.o])];exact Nat.zero_le _,⟨HF.o.1,by rw [HP.o,U3];exact HF.o.2.1⟩,Mr 1,⟨by show (0:Int)≤0;omega,by show (0:Int)≤4294967295;omega⟩⟩)
  have HSA:=Hz (save_at HLD.o Rc.none Yv)
  rw [HSV.o] at HSA
  go_wp2_with (go_at_call 57;refine HSA.o.mono ?_;rintro e w4 ⟨rfl,F2,J2,hD4,hM4,hdj,hk4,hf4,hj4⟩;have HD4:=Hz hD4;have HM4:=Hz hM4;have HDJ:=Hz hdj;have KK4:=Hz hk4;have FF4:=Hz hf4;clear hD4 hM4 hdj hk4 hf4 hj4)
  go_ret2
  rw [HLF.o]
  have ha:=HA.o
  have hs0:=L2.o.size
  have hs1:=LZ.o.size
  refine⟨F2,HD4.o,?_,fun i hi=>?_,.inr ⟨HY.o.symm,rfl⟩⟩
  ·refine KK3.o.trans KK4.o fun i hi=>?_
   rcases hi with h|h
   ·exact FF3.o i h
   ·exact .inr (by omega)
  ·rcases FF4.o i hi with (h|h)|h
   ·exact FF3.o i h
   ·exact .inr (by omega)
   ·exact .inr (Ml (Ml hs0 hs1) (Ml hs3 h))
 ·rw [if_neg (show ¬(8:Int)=0 by omega)] at HLF
  go_wp2_with fail
  go_region_held3 (fun w'=>w'.cell? ⟨a,8,none⟩=some (.int .i64 1))
   (first
    | go_keep
    | exact HK3.o)
   ((go_at_call 99;refine (HW.o _ LZ.o _ HRZ.o HAZ.o).mono ?_;rintro e w3 ⟨rfl,F1,hD1,hk1,hf1⟩;have HM3:=Hz ((HM2.o.below LZ.o).keep hk1 fun i hi hF=>HAF.o ((show i=a from hi)▸hF));have HK3:=Hz (show w3.cell? ⟨a,8,none⟩=some (.int .i64 1) from HM3.o.blk.cell rfl);have HD3:=Hz hD1;have KK3:=Hz ((Keep.of_below (L2.o.trans (LZ.o.mono L2.o.size))).trans hk1 fun i hi=>.inl hi);have FF3:=Hz (show ∀i,F1 i→F i∨w.heap.size≤i from fun i hi=>(hf1 i hi).imp id fun h=>Ml (Ml L2.o.size LZ.o.size) h);have hs3:=hk1.size;have HNA:=Hz (show ∀i,F1 i→i≠a from fun i hi e=>by { rcases hf1 i hi with h|h;exact HAF.o (e▸h);have:=LZ.o.size;have:w2.heap.size≤i:=Ml LZ.o.size h;omega });clear hD1 hk1 hf1))
  go_wp2
  go_ret2
  rw [HLF.o]
  exact⟨F1,HD3.o,KK3.o,FF3.o,.inr ⟨rfl,rfl⟩⟩
end CmtN
namespace StoW
open DskA RecM BitM StgM StgP StgQ CmtM StoM ImgT StoV
abbrev Ks:=St×(Nat→Pt)×Int
def ksp (P:Pt):Nat:=if P.l.r.c=0 then 1 else 0
section
variable (n:Nat) (T:Int) (chk:Nat→Ig→Int→Int) (s:St) (P:Nat→Pt)
def kfr (p:Int):Int:=if p<0∨(n:Int)≤p then 3 else if (P p.toNat).l.r.a≠(P p.toNat).l.r.c then 18 else 0
def kslot (p:Nat) (c:Sa):Ks:=((sA s ((P p).t (ksp (P p))) c).1,upd P p { P p with t:=upd (P p).t (ksp (P p)) (sA s ((P p).t (ksp (P p))) c).2.1 },(sA s ((P p).t (ksp (P p))) c).2.2)
def ksave (p:Nat) (r:Rc):Ks:=((lS s (P p).l r).1,upd P p { P p with l:=(lS s (P p).l r).2.1 },(lS s (P p).l r).2.2)
def kbg (p ses:Int):Int:=if kfr n P p≠0 then kfr n P p else if ((P p.toNat).t (ksp (P p.toNat))).has=false then 16 else if ((P p.toNat).t (ksp (P p.toNat))).g.s≠ses then 17 else 0
def kgot (p:Nat):List Nat×Int:=pY s ((P p).t (ksp (P p)))
def kruns (p:Nat):Ig:=iG (pY s ((P p).t (sl (P p).l.r.a))).1
def ksealR (p:Nat):Rc:={ (P p).l.r with a:=(ksp (P p):Nat),l:=T,b:=0 }
def kseal (p ses:Int):Ks:=
 if kbg n P p ses≠0 then (s,P,kbg n P p ses)
 else if (kgot s P p.toNat).2≠0 then (s,P,(kgot s P p.toNat).2)
 else if (iG (kgot s P p.toNat).1).e≠0 then (s,P,(iG (kgot s P p.toNat).1).e)
 else if chk p.toNat (iG (kgot s P p.toNat).1) (kruns s P p.toNat).v≠0 then (s,P,chk p.toNat (iG (kgot s P p.toNat).1) (kruns s P p.toNat).v)
 else ksave s P p.toNat (ksealR T P p.toNat)
def kDo (a:Da):Ks:=
 if a.k=0 then (if kfr n P a.p≠0 then (s,P,kfr n P a.p) else kslot s P a.p.toNat ⟨0,a.n,a.z,0,[]⟩)
 else if a.k=1 then (if kfr n P a.p≠0 then (s,P,kfr n P a.p) else kslot s P a.p.toNat ⟨1,a.n,0,a.no,a.d⟩)
 else if a.k=2 then kseal n T chk s P a.p a.n
 else if a.k=3 then (if kbg n P a.p a.n≠0 then (s,P,kbg n P a.p a.n) else kslot s P a.p.toNat ⟨2,0,0,0,[]⟩)
 else if a.k=4 then (if a.p<0∨(n:Int)≤a.p then (s,P,3) else if (P a.p.toNat).l.r.a=(P a.p.toNat).l.r.c then (s,P,0) else ksave s P a.p.toNat (bootR (P a.p.toNat).l.r))
 else (if a.p<0∨(n:Int)≤a.p then (s,P,3) else if (P a.p.toNat).l.r.a=(P a.p.toNat).l.r.c then (s,P,16) else ksave s P a.p.toNat (confR (P a.p.toNat).l.r))
end
section
variable {n:Nat} {T:Int} {chk:Nat→Ig→Int→Int} {s:St} {P:Nat→Pt} {D:Dc} {p:Nat}
theorem qqu {o:Ow} {Q:Pt} (h:PtOk p Q o):ksp Q=spr o:=by
 unfold ksp spr
 rw [h.lr]
theorem kfr_eq (h:∀p,p<n→PtOk p (P p) (D.O p)) (q:Int):kfr n P q=dfr n D q:=by
 unfold kfr dfr
 by_cases h1:q<0∨(n:Int)≤q
 ·rw [if_pos h1,if_pos h1]
 ·rw [if_neg h1,if_neg h1,(h q.toNat (by omega)).lr]
theorem kbg_eq (h:∀p,p<n→PtOk p (P p) (D.O p)) (q ses:Int):kbg n P q ses=dbg n D q ses:=by
 unfold kbg dbg
 rw [kfr_eq h]
 by_cases h1:dfr n D q≠0
 ·rw [if_pos h1,if_pos h1]
 ·obtain⟨p,rfl,hp,_⟩:=dfr_0 (Mc_ h1)
  have hk:=h p hp
  rw [if_neg h1,if_neg h1,show ((p:Int)).toNat=p from by omega,qqu hk,hk.t _ (spr_le _)]
  rfl
def Out (n:Nat) (P:Nat→Pt) (O O2:Nat→Ow) (e:Int) (r:Ks):Prop:=
 (r.2.2=e∧r.2.2≠8∧SU r.1 n r.2.1 O2)∨(r.2.2=8∧e=0∧r.2.1=P∧SD r.1 n P O O2)
theorem V6 (h:SU s n P D.O) {e:Int} (he:e≠8):Out n P D.O D.O e (s,P,e):=.inl ⟨rfl,he,h⟩
theorem qwu (h:SU s n P D.O) (hp:p<n) (c:Sa) (hb:byt c.d):Out n P D.O (dslot D p c).1.O (dslot D p c).2 (kslot s P p c):=by
 have hk:=qqu (h.pt p hp)
 unfold kslot
 rw [hk]
 rcases slot_up h hp (spr_le _) rfl c hb with h1|⟨h1,h2,h3,h4⟩
 ·exact .inl h1
 ·refine .inr ⟨h1,h2,?_,h4⟩
  show upd P p { P p with t:=upd (P p).t (spr (D.O p)) (sA s ((P p).t (spr (D.O p))) c).2.1 }=P
  rw [h3,Vj,Vj]
theorem Tj (h:SU s n P D.O) (hp:p<n) (r:Rc):Out n P D.O (dsave D p r).1.O (dsave D p r).2 (ksave s P p r):=by
 unfold ksave
 rcases log_up h hp r with h1|⟨h1,h2,h3,h4⟩
 ·exact .inl h1
 ·refine .inr ⟨h1,h2,?_,h4⟩
  show upd P p { P p with l:=(lS s (P p).l r).2.1 }=P
  rw [h3,Vj]
theorem rY_8 (x:Rf):(rY x).2≠8:=by
 unfold rY
 repeat' split
 ·show (16:Int)≠8;omega
 ·show (11:Int)≠8;omega
 ·show (0:Int)≠8;omega
theorem iG_8 (ys:List Nat):(iG ys).e≠8:=by
 unfold iG
 have h:=rdI_e ((ys.take (ys.length-36)).drop 2)
 repeat' split
 ·show (1:Int)≠8;omega
 ·show (10:Int)≠8;omega
 ·show (2:Int)≠8;omega
 ·show (rdI ((ys.take (ys.length-36)).drop 2)).e≠8;omega
 ·omega
 ·show (3:Int)≠8;omega
theorem dfr_8 (q:Int):dfr n D q≠8:=by
 unfold dfr
 repeat' split
 all_goals omega
theorem dbg_8 (q ses:Int):dbg n D q ses≠8:=by
 unfold dbg
 repeat' split
 ·exact dfr_8 q
 all_goals omega
theorem qwv (hc8:∀p i v,chk p i v≠8) (h:SU s n P D.O) (hD:DI n chk D) (q ses:Int):Out n P D.O (dseal n T chk D q ses).1.O (dseal n T chk D q ses).2 (kseal n T chk s P q ses):=by
 unfold kseal dseal
 rw [kbg_eq h.pt]
 by_cases h1:dbg n D q ses≠0
 ·rw [if_pos h1,if_pos h1];exact V6 h (dbg_8 _ _)
 rw [if_neg h1,if_neg h1]
 obtain⟨p,rfl,hp,ha⟩:=dfr_0 (dbg_0 (Mc_ h1))
 rw [show ((p:Int)).toNat=p from by omega]
 have hk:=h.pt p hp
 have hg:kgot s P p=got D p:=by
  unfold kgot got
  rw [qqu hk]
  exact qqe (h.inv hp (spr_le _))
 have hr:kruns s P p=D.I p (sl (D.O p).r.a):=by
  unfold kruns
  have har:=(h.ok p hp).right.1.2.2.1
  rw [hk.lr,qqe (h.inv hp (k:=sl (D.O p).r.a) (by unfold sl;omega))]
  exact (hD p hp).1.is
 have hsr:ksealR T P p=sealR T D p:=by unfold ksealR sealR;rw [qqu hk,hk.lr]
 rw [hg,hr,hsr]
 by_cases h2:(got D p).2≠0
 ·rw [if_pos h2,if_pos h2];exact V6 h (rY_8 _)
 rw [if_neg h2,if_neg h2]
 by_cases h3:(iG (got D p).1).e≠0
 ·rw [if_pos h3,if_pos h3];exact V6 h (iG_8 _)
 rw [if_neg h3,if_neg h3]
 by_cases h4:chk p (iG (got D p).1) (D.I p (sl (D.O p).r.a)).v≠0
 ·rw [if_pos h4,if_pos h4];exact V6 h (hc8 _ _ _)
 rw [if_neg h4,if_neg h4]
 have ho:=Tj h hp (sealR T D p)
 by_cases h5:(nx (D.O p).r (sealR T D p)).2=0
 ·rw [if_pos h5]
  have e:(dsave D p (sealR T D p)).2=0:=h5
  rw [e] at ho
  exact ho
 ·rw [if_neg h5]
  have e1:(dsave D p (sealR T D p)).1.O=D.O:=by
   rcases Uq (D.O p).r (sealR T D p) with⟨e0,_⟩|⟨_,e1⟩
   ·exact absurd e0 h5
   ·show upd D.O p { D.O p with r:=(nx (D.O p).r (sealR T D p)).1 }=D.O
    rw [e1]
    exact Vj _ _
  rw [e1] at ho
  exact ho
theorem out_do (hc8:∀p i v,chk p i v≠8) (h:SU s n P D.O) (hD:DI n chk D) (a:Da) (hb:byt a.d):Out n P D.O (dDo n T chk D a).1.O (dDo n T chk D a).2 (kDo n T chk s P a):=by
 have hnil:byt ([]:List Nat):=fun c hc=>by cases hc
 have hs:∀c:Sa,byt c.d→dfr n D a.p=0→Out n P D.O (dslot D a.p.toNat c).1.O (dslot D a.p.toNat c).2 (kslot s P a.p.toNat c):=fun c hc h0=>by
  obtain⟨p,e,hp,ha⟩:=dfr_0 h0
  rw [e,show ((p:Int)).toNat=p from by omega]
  exact qwu h hp c hc
 unfold kDo dDo
 rw [kfr_eq h.pt,kbg_eq h.pt]
 by_cases k0:a.k=0
 ·rw [if_pos k0,if_pos k0]
  by_cases h0:dfr n D a.p≠0
  ·rw [if_pos h0,if_pos h0];exact V6 h (dfr_8 _)
  ·rw [if_neg h0,if_neg h0];exact hs _ hnil (Mc_ h0)
 rw [if_neg k0,if_neg k0]
 by_cases k1:a.k=1
 ·rw [if_pos k1,if_pos k1]
  by_cases h0:dfr n D a.p≠0
  ·rw [if_pos h0,if_pos h0];exact V6 h (dfr_8 _)
  ·rw [if_neg h0,if_neg h0];exact hs _ hb (Mc_ h0)
 rw [if_neg k1,if_neg k1]
 by_cases k2:a.k=2
 ·rw [if_pos k2,if_pos k2];exact qwv hc8 h hD _ _
 rw [if_neg k2,if_neg k2]
 by_cases k3:a.k=3
 ·rw [if_pos k3,if_pos k3]
  by_cases h0:dbg n D a.p a.n≠0
  ·rw [if_pos h0,if_pos h0];exact V6 h (dbg_8 _ _)
  ·rw [if_neg h0,if_neg h0];exact hs _ hnil (dbg_0 (Mc_ h0))
 rw [if_neg k3,if_neg k3]
 by_cases k4:a.k=4
 ·rw [if_pos k4,if_pos k4]
  by_cases h0:a.p<0∨(n:Int)≤a.p
  ·rw [if_pos h0,if_pos h0];exact V6 h (by omega)
  rw [if_neg h0,if_neg h0,(h.pt a.p.toNat (by omega)).lr]
  by_cases h9:(D.O a.p.toNat).r.a=(D.O a.p.toNat).r.c
  ·rw [if_pos h9,if_pos h9];exact V6 h (by omega)
  ·rw [if_neg h9,if_neg h9];exact Tj h (by omega) _
 ·rw [if_neg k4,if_neg k4]
  by_cases h0:a.p<0∨(n:Int)≤a.p
  ·rw [if_pos h0,if_pos h0];exact V6 h (by omega)
  rw [if_neg h0,if_neg h0,(h.pt a.p.toNat (by omega)).lr]
  by_cases h9:(D.O a.p.toNat).r.a=(D.O a.p.toNat).r.c
  ·rw [if_pos h9,if_pos h9];exact V6 h (by omega)
  ·rw [if_neg h9,if_neg h9];exact Tj h (by omega) _
end
end StoW
namespace StoN
open Mem DskA StgM CmtM StoM
open RecA (rval rcells rok sval scells sok)
open StgN (Sm DS Sgo)
open CmtN (Lm LS Lgo)
open TabA (Tri Tris Ta)
inductive Zl
 | out
 | head
 | list
 | tab
 | log (p:Nat)
 | slot (p k:Nat)
structure Lo where
 z:Nat
 pb:Nat
 pc:Nat
 PC:List Value
 la:Nat→Nat
 sa:Nat→Nat→Nat
def pcs (g la s0 s1:Nat):List Value:=[.pointer (some ⟨la,0,none⟩),.pointer (some ⟨s0,0,none⟩),.pointer (some ⟨s1,0,none⟩),.pointer (some ⟨g,0,none⟩)]
@[reducible] def pval (g la s0 s1:Nat):Value:=.agg #[.pointer (some ⟨la,0,none⟩),.pointer (some ⟨s0,0,none⟩),.pointer (some ⟨s1,0,none⟩),.pointer (some ⟨g,0,none⟩)]
@[reducible] def pzero:Value:=.agg #[.pointer none,.pointer none,.pointer none,.pointer none]
def isZ (ζ:Nat→Zl) (i:Nat):Prop:=∃p,ζ i=.log p∨∃k,ζ i=.slot p k
theorem Tris.keep {w w':World} {G:Nat→Prop} {A:Option Addr} {n c:Nat} {R:List Tri} (h:Tris w A n c R) (k:Keep G w w') (hd:0<n→∀q o,A=some ⟨q,o,none⟩→¬G q):Tris w' A n c R:=
 ⟨h.1,h.2.1,h.2.2.1,h.2.2.2.1,fun hp=>by
  obtain⟨b,o,hA,hbl,hc⟩:=h.2.2.2.2 hp
  exact⟨b,o,hA,Mw hbl k.size,fun i r hr j u hu=>(World.cell?_of_block (k.block b hbl (hd hp b o hA))).trans (hc i r hr j u hu)⟩⟩
structure Zm (w:World) (ζ:Nat→Zl) (g:Nat) (t:Ta) (n:Nat) (P:Nat→Pt) (Z:Lo):Prop where
 head:Blk w Z.z 74 (t.cells++[.slice (some ⟨Z.pb,0,none⟩) n Z.pc])
 tok:t.ok w
 tb:(0<t.n1→∀q o,t.A1=some ⟨q,o,none⟩→ζ q=.tab)∧(0<t.n2→∀q o,t.A2=some ⟨q,o,none⟩→ζ q=.tab)∧(0<t.n3→∀q o,t.A3=some ⟨q,o,none⟩→ζ q=.tab)
 n4:n=t.n1∧n≤4∧n≤Z.pc∧Z.pc≤9223372036854775807
 list:Blk w Z.pb 80 Z.PC
 own:∀p,p<n→p*4+4≤Z.PC.length∧(Z.PC.drop (p*4)).take 4=pcs g (Z.la p) (Z.sa p 0) (Z.sa p 1)
 log:∀p,p<n→Lm w (fun i=>i=Z.la p) (Z.la p) g (P p).l
 slot:∀p,p<n→∀k,k≤1→Sm w (fun i=>i=Z.sa p k) (Z.sa p k) g ((P p).t k)
 rz:ζ Z.z=.head
 rb:ζ Z.pb=.list
 rl:∀p,p<n→ζ (Z.la p)=.log p
 rs:∀p,p<n→∀k,k≤1→ζ (Z.sa p k)=.slot p k
 lt:∀i,ζ i≠.out→i<w.heap.size
section
variable {w w':World} {ζ:Nat→Zl} {G:Nat→Prop} {g n:Nat} {t:Ta} {P:Nat→Pt} {Z:Lo}
theorem Zm.keep1 (h:Zm w ζ g t n P Z) (k:Keep G w w') (hd:∀i,ζ i=.head∨ζ i=.list∨ζ i=.tab→¬G i) {P':Nat→Pt} (hl:∀p,p<n→Lm w' (fun i=>i=Z.la p) (Z.la p) g (P' p).l) (hs:∀p,p<n→∀k,k≤1→Sm w' (fun i=>i=Z.sa p k) (Z.sa p k) g ((P' p).t k)):Zm w' ζ g t n P' Z:=
 ⟨k.blk h.head (hd _ (.inl h.rz)),⟨Tris.keep h.tok.P k fun h0 q o e=>hd _ (.inr (.inr (h.tb.1 h0 q o e))),Tris.keep h.tok.W k fun h0 q o e=>hd _ (.inr (.inr (h.tb.2.1 h0 q o e))),Tris.keep h.tok.C k fun h0 q o e=>hd _ (.inr (.inr (h.tb.2.2 h0 q o e))),h.tok.f0,h.tok.f1,h.tok.t0,h.tok.t1⟩,h.tb,h.n4,
  k.blk h.list (hd _ (.inr (.inl h.rb))),h.own,hl,hs,h.rz,h.rb,h.rl,h.rs,fun i hi=>Mw (h.lt i hi) k.size⟩
theorem Zm.keep (h:Zm w ζ g t n P Z) (k:Keep G w w') (hd:∀i,ζ i≠.out→¬G i):Zm w' ζ g t n P Z:=
 h.keep1 k (fun i hi=>hd i fun e=>by rw [e] at hi;rcases hi with hi|hi|hi <;> cases hi)
  (fun p hp=>(h.log p hp).keep k fun i hi=>hd i fun e=>by rw [show i=Z.la p from hi,h.rl p hp] at e;cases e)
  (fun p hp j hj=>(h.slot p hp j hj).keep k fun i hi=>hd i fun e=>by rw [show i=Z.sa p j from hi,h.rs p hp j hj] at e;cases e)
theorem Zm.below (h:Zm w ζ g t n P Z) (hb:Bw w w'):Zm w' ζ g t n P Z:=h.keep (Keep.of_below (F:=fun _=>False) hb) fun _ _ h=>h
theorem Zm.tcells (h:Zm w ζ g t n P Z):w.cell? ⟨Z.z,0,none⟩=some (.int .i64 t.fr)∧w.cell? ⟨Z.z,1,none⟩=some (.slice t.A1 t.n1 t.c1)∧w.cell? ⟨Z.z,2,none⟩=some (.slice t.A2 t.n2 t.c2)∧w.cell? ⟨Z.z,3,none⟩=some (.slice t.A3 t.n3 t.c3)∧w.cell? ⟨Z.z,4,none⟩=some (.int .i64 t.tr)∧w.cell? ⟨Z.z,5,none⟩=some (.slice (some ⟨Z.pb,0,none⟩) n Z.pc):=
 ⟨h.head.cell rfl,h.head.cell rfl,h.head.cell rfl,h.head.cell rfl,h.head.cell rfl,h.head.cell rfl⟩
end
structure DZ (w:World) (F:Nat→Prop) (ζ:Nat→Zl) (g:Nat) (s:St) (t:Ta) (n:Nat) (P:Nat→Pt) (Z:Lo):Prop where
 dk:Dk w F g s
 zm:Zm w ζ g t n P Z
 dis:∀i,F i→ζ i=.out
 most:s.L.length≤1000000
 len:10*n≤s.S.length
 at_:∀p,p<n→(P p).l.p=p∧∀k,k≤1→((P p).t k).p=p∧((P p).t k).k=k
def Zgo (F:Nat→Prop) (ζ:Nat→Zl) (g:Nat) (t:Ta) (n:Nat) (Z:Lo) (w:World) (s':St) (P':Nat→Pt) (w':World):Prop:=
 ∃F',Dk w' F' g s'∧Zm w' ζ g t n P' Z∧(∀i,F' i→ζ i=.out)∧Keep (fun i=>F i∨isZ ζ i) w w'∧(∀i,F' i→F i∨w.heap.size≤i)
section
variable {w w':World} {F:Nat→Prop} {ζ:Nat→Zl} {g n p k:Nat} {s s':St} {t:Ta} {P:Nat→Pt} {Z:Lo}
theorem DZ.below (h:DZ w F ζ g s t n P Z) (hb:Bw w w'):DZ w' F ζ g s t n P Z:=⟨h.dk.below hb,h.zm.below hb,h.dis,h.most,h.len,h.at_⟩
theorem DZ.ds (h:DZ w F ζ g s t n P Z) (hp:p<n) (hk:k≤1):DS w F (fun i=>i=Z.sa p k) g (Z.sa p k) s ((P p).t k):=by
 have ha:=(h.at_ p hp).2 k hk
 have hn:=h.zm.n4
 have hl:=h.len
 exact⟨h.dk,h.zm.slot p hp k hk,fun i hf hi=>(by have:=h.dis i hf;rw [show i=Z.sa p k from hi,h.zm.rs p hp k hk] at this;cases this),h.most,by rw [ha.1];omega,by rw [ha.2];exact hk,by unfold Slt.at_;rw [ha.1,ha.2];omega⟩
theorem DZ.ls (h:DZ w F ζ g s t n P Z) (hp:p<n) (hr:(P p).l.r.right∧(P p).l.r.p=(P p).l.p∧(P p).l.i≤1):LS w F (fun i=>i=Z.la p) g (Z.la p) s (P p).l:=by
 have ha:=(h.at_ p hp).1
 have hn:=h.zm.n4
 have hl:=h.len
 exact⟨h.dk,h.zm.log p hp,fun i hf hi=>(by have:=h.dis i hf;rw [show i=Z.la p from hi,h.zm.rl p hp] at this;cases this),h.most,⟨by rw [ha];omega,by rw [ha];omega⟩,hr⟩
theorem DZ.still (h:DZ w F ζ g s t n P Z) (hb:Bw w w'):Zgo F ζ g t n Z w s P w':=
 ⟨F,h.dk.below hb,h.zm.below hb,h.dis,Keep.of_below hb,fun _ hi=>.inl hi⟩
theorem Zgo.from {w1:World} {P':Nat→Pt} (hb:Bw w w1) (h:Zgo F ζ g t n Z w1 s' P' w'):Zgo F ζ g t n Z w s' P' w':=by
 obtain⟨F',h1,h2,h3,h4,h5⟩:=h
 exact⟨F',h1,h2,h3,(Keep.of_below (F:=fun i=>F i∨isZ ζ i) hb).trans h4 fun i hi=>.inl hi,fun i hi=>(h5 i hi).imp id fun h=>Ml hb.size h⟩
theorem DZ.sgo {v:Value} {e:Ending} {t':Slt} (h:DZ w F ζ g s t n P Z) (hp:p<n) (hk:k≤1) (hg:Sgo F (fun i=>i=Z.sa p k) g (Z.sa p k) w v s' t' e w') :
 e=.returned v∧Zgo F ζ g t n Z w s' (upd P p { P p with t:=upd (P p).t k t' }) w':=by
 obtain⟨he,F',J',h1,h2,h3,h4,h5,h6⟩:=hg
 have hz:=h.zm
 have hne:∀i,ζ i≠.out→(∀q j,ζ i=.slot q j→¬(q=p∧j=k))→¬(F i∨i=Z.sa p k):=fun i hi hs hh=>by
  rcases hh with hh|hh
  ·exact hi (h.dis i hh)
  ·rw [hh] at hs;exact hs p k (hz.rs p hp k hk) ⟨rfl,rfl⟩
 have hF:∀i,F' i→F i∨w.heap.size≤i:=fun i hi=>by
  rcases h5 i hi with (h7|h7)|h7
  ·exact .inl h7
  ·exact absurd ((h2.own i).2 h7) (h3 i hi)
  ·exact .inr h7
 refine⟨he,F',h1,?_,fun i hi=>?_,h4.mono fun i _ hi=>hi.imp id fun e=>⟨p,.inr ⟨k,by rw [e];exact hz.rs p hp k hk⟩⟩,hF⟩
 ·refine hz.keep1 h4 (fun i hi=>hne i (fun e=>by rw [e] at hi;rcases hi with hi|hi|hi <;> cases hi) fun q j e=>by rw [e] at hi;rcases hi with hi|hi|hi <;> cases hi) (fun q hq=>?_) (fun q hq j hj=>?_)
  ·have e:(upd P p { P p with t:=upd (P p).t k t' } q).l=(P q).l:=by
    by_cases e:q=p
    ·subst e;rw [Qw]
    ·rw [upd_ne _ _ e]
   rw [e]
   exact (hz.log q hq).keep h4 fun i hi=>hne i (by rw [show i=Z.la q from hi,hz.rl q hq];intro e;cases e) fun a b e=>by rw [show i=Z.la q from hi,hz.rl q hq] at e;cases e
  ·by_cases e:q=p∧j=k
   ·obtain⟨rfl,rfl⟩:=e
    rw [Qw]
    show Sm w' _ _ g (upd (P q).t j t' j)
    rw [Qw]
    exact⟨h2.blk,fun _=>Iff.rfl,h2.is,h2.ok⟩
   ·have e2:(upd P p { P p with t:=upd (P p).t k t' } q).t j=(P q).t j:=by
     by_cases e3:q=p
     ·subst e3
      rw [Qw]
      exact upd_ne _ _ fun e4=>e ⟨rfl,e4⟩
     ·rw [upd_ne _ _ e3]
    rw [e2]
    refine (hz.slot q hq j hj).keep h4 fun i hi=>hne i (by rw [show i=Z.sa q j from hi,hz.rs q hq j hj];intro e;cases e) fun a b e5=>?_
    rw [show i=Z.sa q j from hi,hz.rs q hq j hj] at e5
    injection e5 with e6 e7
    subst e6 e7
    exact e
 ·rcases hF i hi with h7|h7
  ·exact h.dis i h7
  ·exact Mc_ fun h8=>by have:=hz.lt i h8;omega
theorem DZ.lgo {v:Value} {e:Ending} {l':Lg} (h:DZ w F ζ g s t n P Z) (hp:p<n) (hg:Lgo F (fun i=>i=Z.la p) g (Z.la p) w v s' l' e w') :
 e=.returned v∧Zgo F ζ g t n Z w s' (upd P p { P p with l:=l' }) w':=by
 obtain⟨he,F',J',h1,h2,h3,h4,h5,h6⟩:=hg
 have hz:=h.zm
 have hne:∀i,ζ i≠.out→(∀q,ζ i=.log q→q≠p)→¬(F i∨i=Z.la p):=fun i hi hs hh=>by
  rcases hh with hh|hh
  ·exact hi (h.dis i hh)
  ·rw [hh] at hs;exact hs p (hz.rl p hp) rfl
 have hF:∀i,F' i→F i∨w.heap.size≤i:=fun i hi=>by
  rcases h5 i hi with (h7|h7)|h7
  ·exact .inl h7
  ·exact absurd ((h2.own i).2 h7) (h3 i hi)
  ·exact .inr h7
 refine⟨he,F',h1,?_,fun i hi=>?_,h4.mono fun i _ hi=>hi.imp id fun e=>⟨p,.inl (by rw [e];exact hz.rl p hp)⟩,hF⟩
 ·refine hz.keep1 h4 (fun i hi=>hne i (fun e=>by rw [e] at hi;rcases hi with hi|hi|hi <;> cases hi) fun q e=>by rw [e] at hi;rcases hi with hi|hi|hi <;> cases hi) (fun q hq=>?_) (fun q hq j hj=>?_)
  ·by_cases e:q=p
   ·subst e
    rw [Qw]
    exact⟨h2.blk,fun _=>Iff.rfl,h2.ok⟩
   ·rw [upd_ne _ _ e]
    refine (hz.log q hq).keep h4 fun i hi=>hne i (by rw [show i=Z.la q from hi,hz.rl q hq];intro e;cases e) fun a e5=>?_
    rw [show i=Z.la q from hi,hz.rl q hq] at e5
    injection e5 with e6
    subst e6
    exact e
  ·have e2:(upd P p { P p with l:=l' } q).t j=(P q).t j:=by
    by_cases e3:q=p
    ·subst e3;rw [Qw]
    ·rw [upd_ne _ _ e3]
   rw [e2]
   exact (hz.slot q hq j hj).keep h4 fun i hi=>hne i (by rw [show i=Z.sa q j from hi,hz.rs q hq j hj];intro e;cases e) fun a e=>by rw [show i=Z.sa q j from hi,hz.rs q hq j hj] at e;cases e
 ·rcases hF i hi with h7|h7
  ·exact h.dis i h7
  ·exact Mc_ fun h8=>by have:=hz.lt i h8;omega
end
end StoN
namespace ImgU
open Kit Byt Mem Beq ShaM ShaE ImgB ImgS ImgR ImgG ImgT
theorem has_no (b o n c:Nat) (B:Option Addr) (d:Nat) (ys:List Nat) (w:World) (hR:Rd w (some ⟨b,o,none⟩) n c (u8n ys)) (hx:by256 ys) (hP:Rd w B 2 d (u8n [76,73])) (ht:ys.take 2≠[76,73]) :
 Calls Tryz.prog 173 #[.slice (some ⟨b,o,none⟩) n c,.slice B 2 d] w fun e w'=>e=.returned (.bool false)∧w=w':=by
 have hn:ys.length=n:=Rd.nats hR
 have hc:=hR.le
 have hc2:=hR.cap
 by_cases h2:2≤n
 ·have hq:=Jn (some ⟨b,o,none⟩) B 2 2 c d (ys.take 2) [76,73] w (by have:=hR.take (k:=2) (by omega);simpa [u8n,List.map_take] using this) hP (fun u hu=>hx u (List.mem_of_mem_take hu)) (by intro u hu;simp at hu;omega)
  rw [decide_eq_false ht] at hq
  have HQ:=Hz hq
  clear hq hR hP ht hx
  have k0:(2:Int)≤(n:Int):=by omega
  have k1:(2:Int)≤(c:Int):=by omega
  have k2:2≤c:=by omega
  go_enter Tryz.func173,Tryz.ntmps173
  go_wp2_with (go_at_call 142;refine HQ.o.mono ?_;rintro e w' ⟨rfl,rfl⟩)
  go_ret
  exact⟨rfl,rfl⟩
 ·have k0 : ¬(2:Int)≤(n:Int):=by omega
  have k1:(n:Int)<2:=by omega
  clear hR hP ht hx hn hc hc2 h2
  go_enter Tryz.func173,Tryz.ntmps173
  go_wp2
  go_ret
  exact⟨rfl,rfl⟩
theorem cut_no (b o n c:Nat) (B:Option Addr) (d:Nat) (ys:List Nat) (w:World) (hR:Rd w (some ⟨b,o,none⟩) n c (u8n ys)) (hx:by256 ys) (hP:Rd w B 2 d (u8n [76,73])) (ht:ys.take 2≠[76,73]) :
 Calls Tryz.prog 143 #[.slice (some ⟨b,o,none⟩) n c,.slice B 2 d] w fun e w'=>e=.returned (.tuple #[.slice (some ⟨b,o,none⟩) n c,.bool false])∧w=w':=by
 have HH:=Hz (has_no b o n c B d ys w hR hx hP ht)
 clear hR hP ht hx
 go_enter Tryz.func143,Tryz.ntmps143
 go_wp2_with (go_at_call 173;refine HH.o.mono ?_;rintro e w' ⟨rfl,rfl⟩)
 go_ret2
 exact⟨rfl,rfl⟩
theorem get_left (A:Option Addr) (n c:Nat) (zs:List Nat) (w:World) (hT:Tab w) (hR:Rd w A n c (u8n (closed zs))) (hz:by256 zs) (h2:2≤zs.length) (hm:zs.length≤1000) (ht:zs.take 2=[76,73])
 {v1 v2 v3 v4 v5 v6 v7 e1 e2 e3 e4 e5 e6 e7 e8:Int} {x1 x2 x3 x4 x5 x6 x7 x8 cs:List Int}
 (r1:TabR.rdN 1 (nl (zs.drop 2)) 0=(v1,x1,e1)) (r2:TabR.rdN 2 x1 e1=(v2,x2,e2)) (r3:TabR.rdN 2 x2 e2=(v3,x3,e3)) (r4:TabR.rdN 1 x3 e3=(v4,x4,e4)) (r5:TabR.rdN 1 x4 e4=(v5,x5,e5)) (r6:TabR.rdN 1 x5 e5=(v6,x6,e6)) (r7:TabR.rdN 1 x6 e6=(v7,x7,e7)) (r8:TxtR.rtx x7 e7=(cs,x8,e8))
 (hen:TabR.endN x8 e8=2):Calls Tryz.prog 96 #[.slice A n c] w (Gt w zeroV 2):=by
 have hn:(closed zs).length=n:=Rd.nats hR
 rw [Qn] at hn
 have hc:=hR.le
 have hc2:=hR.cap
 obtain⟨b,o,rfl,_,_⟩:=hR.2.2.2 (by omega)
 have HB0:=Hz (own0 w)
 have HL0:=Hz ((Mb w.heap.size w).alloc (Mr _) (.cells #[.int .i64 0,.int .i64 0,.int .i64 0,.int .i64 0,.int .i64 0,.int .i64 0,.int .i64 0,.slice none 0 0] 33))
 have HN:=Hz hn
 have htk:(closed zs).take (n-36)=zs:=by
  unfold closed
  rw [List.append_assoc,List.take_left' (by omega)]
 have HZ:=Hz (show Rd w (some ⟨b,o,none⟩) (n-36) c (u8n zs) from by have:=hR.take (k:=n-36) (by omega);rw [show (u8n (closed zs)).take (n-36)=u8n ((closed zs).take (n-36)) from by simp [u8n]] at this;rwa [htk] at this)
 have HS:=Hz (fun w' (hb:Bw w w')=>sealed_any (some ⟨b,o,none⟩) (n-36) c zs w' (hT.below hb hT.1) (HZ.o.below hb) hz (by omega))
 have HQ:=Hz (fun w' (hb:Bw w w') (B:Option Addr) (m d:Nat) (hB:Rd w' B m d (u8n (closed zs)))=>Jn (some ⟨b,o,none⟩) B n m c d (closed zs) (closed zs) w' (hR.below hb) hB (closed_lt hz) (closed_lt hz))
 rw [decide_eq_true rfl] at HQ
 have HCY:=Hz (fun w' (hb:Bw w w') (B:Option Addr) (d:Nat) (hP:Rd w' B 2 d (u8n [76,73]))=>Gw b o (n-36) c B d zs w' (HZ.o.below hb) hz hP h2 ht)
 have hd8:∀u ∈ nl (zs.drop 2),0≤u∧u≤255:=by
  intro u hu
  simp only [nl,List.mem_map] at hu
  obtain⟨q,hq,rfl⟩:=hu
  have:=hz q (List.mem_of_mem_drop hq)
  omega
 have HRA:=Hz (fun w' (A:Option Addr) (m k:Nat) (h:Rd w' A m k (u8n (zs.drop 2)))=>(hen▸Vh A m k (nl (zs.drop 2)) w' (by rw [←J3];exact h) hd8 (by have:=Rd.nats h;simp at this;omega) r1 r2 r3 r4 r5 r6 r7 r8))
 have h36 : ¬(n:Int)<36:=by omega
 have g0:(0:Int)≤(n:Int)-36:=by omega
 have g1:(n:Int)-36≤(c:Int):=by omega
 have g2:((n:Int)-36).toNat=n-36:=by omega
 have kc:=fun (w:World) (C:Array Value) (n c:Nat)=>Lib.run_convert_bytes_const (P:=Tryz.prog) w 31 5 C n c Tryz.underlying31 Tryz.underlying5
 clear hT hR hn htk ht hz r1 r2 r3 r4 r5 r6 r7 r8 hd8
 go_enter Tryz.func96,Tryz.ntmps96
 go_wp2_with fail
 refine (HS.o _ HL0.o).mono ?_
 rintro e w2 ⟨B,m,d,rfl,ho2,hb2⟩
 have HL2:=Hz (HL0.o.trans (hb2.mono (by simp)))
 have HB2:=Hz (HB0.o.below hb2)
 have HO2:=Hz (Rd.own ho2)
 clear ho2 hb2 HL0 HB0
 go_wp2_with fail
 refine (HQ.o _ HL2.o B m d HO2.o).mono ?_
 rintro e w3 ⟨rfl,rfl⟩
 go_wp2_with fail
 have HL3:=Hz (HL2.o.alloc HL2.o.size (.cells #[.int .u8 76,.int .u8 73] 5 (2,3)))
 have HB3:=Hz (HB2.o.alloc (.cells #[.int .u8 76,.int .u8 73] 5 (2,3)))
 refine (HCY.o _ HL3.o (some ⟨w2.heap.size,0,none⟩) 2 (CrcD.Rd.cells w2 [76,73] 5 (m:=(2,3)) rfl (by omega))).mono ?_
 rintro e w4 ⟨A4,m4,k4,rfl,hr4,rfl⟩
 have HR4:=Hz hr4
 clear hr4
 go_wp2_with fail
 refine (HRA.o _ A4 m4 k4 HR4.o).mono ?_
 rintro e w5 ⟨B5,m5,d5,rfl,hr5,hb5,hq5⟩
 have HL5:=Hz (HL3.o.trans (hb5.mono HL3.o.size))
 have HB5:=Hz (HB3.o.below hb5)
 have HR5:=Hz hr5
 have HN5:=Hz (show 0<m5→∀b o,B5=some ⟨b,o,none⟩→¬b=w.heap.size from fun h b o hA hb=>by have:=hq5 h b o hA;have h3:=HB3.o.lt;omega)
 clear hr5 hb5 hq5 HR4 HL3 HB3 HO2
 have HL6:=Hz (HL5.o.alloc HL5.o.size (.cells #[.int .i64 v1,.int .i64 v2,.int .i64 v3,.int .i64 v4,.int .i64 v5,.int .i64 v6,.int .i64 v7,.slice B5 m5 d5] 33))
 have HB6:=Hz (HB5.o.alloc (.cells #[.int .i64 v1,.int .i64 v2,.int .i64 v3,.int .i64 v4,.int .i64 v5,.int .i64 v6,.int .i64 v7,.slice B5 m5 d5] 33))
 go_wp2_with (refine Qq rfl 33 (.tmp 2) (.tmp 41) rfl w.heap.size rfl zeroI rfl HB6.o rfl Q7 Zv ?_;intro w11 hB11 ho11)
 have k0:=hB11.o.cell (i:=0) rfl
 have k1:=hB11.o.cell (i:=1) rfl
 have k2:=hB11.o.cell (i:=2) rfl
 have k3:=hB11.o.cell (i:=3) rfl
 have k4:=hB11.o.cell (i:=4) rfl
 have k5:=hB11.o.cell (i:=5) rfl
 have k6:=hB11.o.cell (i:=6) rfl
 have k7:=hB11.o.cell (i:=7) rfl
 refine bodyPost_ret (v:=.tuple #[.agg #[.int .i64 0,.int .i64 0,.int .i64 0,.int .i64 0,.int .i64 0,.int .i64 0,.int .i64 0,.slice none 0 0],.int .i64 2]) (by simp [results,Tryz.results96,go_sem,k0,k1,k2,k3,k4,k5,k6,k7]) rfl ?_
 exact⟨rfl,ho11.o.below HL6.o (Mr _) HL6.o.size⟩
theorem get_form (A:Option Addr) (n c:Nat) (zs:List Nat) (w:World) (hT:Tab w) (hR:Rd w A n c (u8n (closed zs))) (hz:by256 zs) (hm:zs.length≤1000) (ht:zs.take 2≠[76,73]) :
 Calls Tryz.prog 96 #[.slice A n c] w (Gt w zeroV 2):=by
 have hn:(closed zs).length=n:=Rd.nats hR
 rw [Qn] at hn
 have hc:=hR.le
 have hc2:=hR.cap
 obtain⟨b,o,rfl,_,_⟩:=hR.2.2.2 (by omega)
 have HB0:=Hz (own0 w)
 have HL0:=Hz ((Mb w.heap.size w).alloc (Mr _) (.cells #[.int .i64 0,.int .i64 0,.int .i64 0,.int .i64 0,.int .i64 0,.int .i64 0,.int .i64 0,.slice none 0 0] 33))
 have HN:=Hz hn
 have htk:(closed zs).take (n-36)=zs:=by
  unfold closed
  rw [List.append_assoc,List.take_left' (by omega)]
 have HZ:=Hz (show Rd w (some ⟨b,o,none⟩) (n-36) c (u8n zs) from by have:=hR.take (k:=n-36) (by omega);rw [show (u8n (closed zs)).take (n-36)=u8n ((closed zs).take (n-36)) from by simp [u8n]] at this;rwa [htk] at this)
 have HS:=Hz (fun w' (hb:Bw w w')=>sealed_any (some ⟨b,o,none⟩) (n-36) c zs w' (hT.below hb hT.1) (HZ.o.below hb) hz (by omega))
 have HQ:=Hz (fun w' (hb:Bw w w') (B:Option Addr) (m d:Nat) (hB:Rd w' B m d (u8n (closed zs)))=>Jn (some ⟨b,o,none⟩) B n m c d (closed zs) (closed zs) w' (hR.below hb) hB (closed_lt hz) (closed_lt hz))
 rw [decide_eq_true rfl] at HQ
 have HCY:=Hz (fun w' (hb:Bw w w') (B:Option Addr) (d:Nat) (hP:Rd w' B 2 d (u8n [76,73]))=>cut_no b o (n-36) c B d zs w' (HZ.o.below hb) hz hP ht)
 have h36 : ¬(n:Int)<36:=by omega
 have g0:(0:Int)≤(n:Int)-36:=by omega
 have g1:(n:Int)-36≤(c:Int):=by omega
 have g2:((n:Int)-36).toNat=n-36:=by omega
 have kc:=fun (w:World) (C:Array Value) (n c:Nat)=>Lib.run_convert_bytes_const (P:=Tryz.prog) w 31 5 C n c Tryz.underlying31 Tryz.underlying5
 clear hT hR hn htk ht hz
 go_enter Tryz.func96,Tryz.ntmps96
 go_wp2_with fail
 refine (HS.o _ HL0.o).mono ?_
 rintro e w2 ⟨B,m,d,rfl,ho2,hb2⟩
 have HL2:=Hz (HL0.o.trans (hb2.mono (by simp)))
 have HB2:=Hz (HB0.o.below hb2)
 have HO2:=Hz (Rd.own ho2)
 clear ho2 hb2 HL0 HB0
 go_wp2_with fail
 refine (HQ.o _ HL2.o B m d HO2.o).mono ?_
 rintro e w3 ⟨rfl,rfl⟩
 go_wp2_with fail
 have HL3:=Hz (HL2.o.alloc HL2.o.size (.cells #[.int .u8 76,.int .u8 73] 5 (2,3)))
 have HB3:=Hz (HB2.o.alloc (.cells #[.int .u8 76,.int .u8 73] 5 (2,3)))
 refine (HCY.o _ HL3.o (some ⟨w2.heap.size,0,none⟩) 2 (CrcD.Rd.cells w2 [76,73] 5 (m:=(2,3)) rfl (by omega))).mono ?_
 rintro e w4 ⟨rfl,rfl⟩
 clear HB2 HO2
 go_wp2_with (refine Qq rfl 33 (.tmp 2) (.tmp 33) rfl w.heap.size rfl zeroI rfl HB3.o rfl Q7 Zv ?_;intro w11 hB11 ho11)
 have k0:=hB11.o.cell (i:=0) rfl
 have k1:=hB11.o.cell (i:=1) rfl
 have k2:=hB11.o.cell (i:=2) rfl
 have k3:=hB11.o.cell (i:=3) rfl
 have k4:=hB11.o.cell (i:=4) rfl
 have k5:=hB11.o.cell (i:=5) rfl
 have k6:=hB11.o.cell (i:=6) rfl
 have k7:=hB11.o.cell (i:=7) rfl
 refine bodyPost_ret (v:=.tuple #[.agg #[.int .i64 0,.int .i64 0,.int .i64 0,.int .i64 0,.int .i64 0,.int .i64 0,.int .i64 0,.slice none 0 0],.int .i64 2]) (by simp [results,Tryz.results96,go_sem,k0,k1,k2,k3,k4,k5,k6,k7]) rfl ?_
 exact⟨rfl,ho11.o.below HL3.o (Mr _) HL3.o.size⟩
theorem get_range (A:Option Addr) (n c:Nat) (zs:List Nat) (w:World) (hT:Tab w) (hR:Rd w A n c (u8n (closed zs))) (hz:by256 zs) (h2:2≤zs.length) (hm:zs.length≤1000) (ht:zs.take 2=[76,73])
 {v1 v2 v3 v4 v5 v6 v7 e1 e2 e3 e4 e5 e6 e7 e8:Int} {x1 x2 x3 x4 x5 x6 x7 x8 cs:List Int}
 (r1:TabR.rdN 1 (nl (zs.drop 2)) 0=(v1,x1,e1)) (r2:TabR.rdN 2 x1 e1=(v2,x2,e2)) (r3:TabR.rdN 2 x2 e2=(v3,x3,e3)) (r4:TabR.rdN 1 x3 e3=(v4,x4,e4)) (r5:TabR.rdN 1 x4 e4=(v5,x5,e5)) (r6:TabR.rdN 1 x5 e5=(v6,x6,e6)) (r7:TabR.rdN 1 x6 e6=(v7,x7,e7)) (r8:TxtR.rtx x7 e7=(cs,x8,e8))
 (hen:TabR.endN x8 e8=0) {xs:List Nat} (hcs:cs=nl xs) (hri:∀A c,¬right ⟨v1,v2,v3,v4,v5,v6,v7,A,xs.length,c,xs⟩) (hxs:xs.length≤100000):Calls Tryz.prog 96 #[.slice A n c] w (Gt w zeroV 3):=by
 have hn:(closed zs).length=n:=Rd.nats hR
 rw [Qn] at hn
 have hc:=hR.le
 have hc2:=hR.cap
 obtain⟨b,o,rfl,_,_⟩:=hR.2.2.2 (by omega)
 have HB0:=Hz (own0 w)
 have HL0:=Hz ((Mb w.heap.size w).alloc (Mr _) (.cells #[.int .i64 0,.int .i64 0,.int .i64 0,.int .i64 0,.int .i64 0,.int .i64 0,.int .i64 0,.slice none 0 0] 33))
 have HN:=Hz hn
 have htk:(closed zs).take (n-36)=zs:=by
  unfold closed
  rw [List.append_assoc,List.take_left' (by omega)]
 have HZ:=Hz (show Rd w (some ⟨b,o,none⟩) (n-36) c (u8n zs) from by have:=hR.take (k:=n-36) (by omega);rw [show (u8n (closed zs)).take (n-36)=u8n ((closed zs).take (n-36)) from by simp [u8n]] at this;rwa [htk] at this)
 have HS:=Hz (fun w' (hb:Bw w w')=>sealed_any (some ⟨b,o,none⟩) (n-36) c zs w' (hT.below hb hT.1) (HZ.o.below hb) hz (by omega))
 have HQ:=Hz (fun w' (hb:Bw w w') (B:Option Addr) (m d:Nat) (hB:Rd w' B m d (u8n (closed zs)))=>Jn (some ⟨b,o,none⟩) B n m c d (closed zs) (closed zs) w' (hR.below hb) hB (closed_lt hz) (closed_lt hz))
 rw [decide_eq_true rfl] at HQ
 have HCY:=Hz (fun w' (hb:Bw w w') (B:Option Addr) (d:Nat) (hP:Rd w' B 2 d (u8n [76,73]))=>Gw b o (n-36) c B d zs w' (HZ.o.below hb) hz hP h2 ht)
 have hd8:∀u ∈ nl (zs.drop 2),0≤u∧u≤255:=by
  intro u hu
  simp only [nl,List.mem_map] at hu
  obtain⟨q,hq,rfl⟩:=hu
  have:=hz q (List.mem_of_mem_drop hq)
  omega
 have HRA:=Hz (fun w' (A:Option Addr) (m k:Nat) (h:Rd w' A m k (u8n (zs.drop 2)))=>(hen▸Vh A m k (nl (zs.drop 2)) w' (by rw [←J3];exact h) hd8 (by have:=Rd.nats h;simp at this;omega) r1 r2 r3 r4 r5 r6 r7 r8))
 have HRI:=Hz hri
 have h36 : ¬(n:Int)<36:=by omega
 have g0:(0:Int)≤(n:Int)-36:=by omega
 have g1:(n:Int)-36≤(c:Int):=by omega
 have g2:((n:Int)-36).toNat=n-36:=by omega
 have kc:=fun (w:World) (C:Array Value) (n c:Nat)=>Lib.run_convert_bytes_const (P:=Tryz.prog) w 31 5 C n c Tryz.underlying31 Tryz.underlying5
 clear hT hR hn htk ht hz r1 r2 r3 r4 r5 r6 r7 r8 hd8 hri
 go_enter Tryz.func96,Tryz.ntmps96
 go_wp2_with fail
 refine (HS.o _ HL0.o).mono ?_
 rintro e w2 ⟨B,m,d,rfl,ho2,hb2⟩
 have HL2:=Hz (HL0.o.trans (hb2.mono (by simp)))
 have HB2:=Hz (HB0.o.below hb2)
 have HO2:=Hz (Rd.own ho2)
 clear ho2 hb2 HL0 HB0
 go_wp2_with fail
 refine (HQ.o _ HL2.o B m d HO2.o).mono ?_
 rintro e w3 ⟨rfl,rfl⟩
 go_wp2_with fail
 have HL3:=Hz (HL2.o.alloc HL2.o.size (.cells #[.int .u8 76,.int .u8 73] 5 (2,3)))
 have HB3:=Hz (HB2.o.alloc (.cells #[.int .u8 76,.int .u8 73] 5 (2,3)))
 refine (HCY.o _ HL3.o (some ⟨w2.heap.size,0,none⟩) 2 (CrcD.Rd.cells w2 [76,73] 5 (m:=(2,3)) rfl (by omega))).mono ?_
 rintro e w4 ⟨A4,m4,k4,rfl,hr4,rfl⟩
 have HR4:=Hz hr4
 clear hr4
 go_wp2_with fail
 refine (HRA.o _ A4 m4 k4 HR4.o).mono ?_
 rintro e w5 ⟨B5,m5,d5,rfl,hr5,hb5,hq5⟩
 have HL5:=Hz (HL3.o.trans (hb5.mono HL3.o.size))
 have HB5:=Hz (HB3.o.below hb5)
 have HR5:=Hz hr5
 have HN5:=Hz (show 0<m5→∀b o,B5=some ⟨b,o,none⟩→¬b=w.heap.size from fun h b o hA hb=>by have:=hq5 h b o hA;have h3:=HB3.o.lt;omega)
 clear hr5 hb5 hq5 HR4 HL3 HB3 HO2
 have hr5:=HR5.o
 rw [hcs,←J3] at hr5
 obtain rfl:xs.length=m5:=Rd.nats hr5
 replace HR5:=Hz hr5
 have HG:=Hz (fun w'=>right_any ⟨v1,v2,v3,v4,v5,v6,v7,B5,xs.length,d5,xs⟩ w' (by show xs.length≤_;omega) false (by simpa using HRI.o B5 d5))
 clear hr5 HRI hcs
 go_wp2_with fail
 have HX6:=Hz (Blk.new w5 33 [.int .i64 v1,.int .i64 v2,.int .i64 v3,.int .i64 v4,.int .i64 v5,.int .i64 v6,.int .i64 v7,.slice B5 xs.length d5])
 have HL6:=Hz (HL5.o.alloc HL5.o.size (.cells #[.int .i64 v1,.int .i64 v2,.int .i64 v3,.int .i64 v4,.int .i64 v5,.int .i64 v6,.int .i64 v7,.slice B5 xs.length d5] 33))
 have HB6:=Hz (HB5.o.alloc (.cells #[.int .i64 v1,.int .i64 v2,.int .i64 v3,.int .i64 v4,.int .i64 v5,.int .i64 v6,.int .i64 v7,.slice B5 xs.length d5] 33))
 have HR6:=Hz (HR5.o.alloc (.cells #[.int .i64 v1,.int .i64 v2,.int .i64 v3,.int .i64 v4,.int .i64 v5,.int .i64 v6,.int .i64 v7,.slice B5 xs.length d5] 33))
 obtain⟨w6,hw6⟩:∃w6,w6=w5.alloc (.cells #[.int .i64 v1,.int .i64 v2,.int .i64 v3,.int .i64 v4,.int .i64 v5,.int .i64 v6,.int .i64 v7,.slice B5 xs.length d5] 33):=⟨_,rfl⟩
 replace HX6:=Hz (show Blk w6 w5.heap.size 33 [.int .i64 v1,.int .i64 v2,.int .i64 v3,.int .i64 v4,.int .i64 v5,.int .i64 v6,.int .i64 v7,.slice B5 xs.length d5] from by rw [hw6];exact HX6.o)
 rw [←hw6] at HL6 HB6 HR6 ⊢
 clear hw6
 refine (HG.o _).mono ?_
 rintro e w7 ⟨rfl,hb7⟩
 have HX7:=Hz (HX6.o.below hb7)
 have HL7:=Hz (HL6.o.trans (hb7.mono HL6.o.size))
 have HB7:=Hz (HB6.o.below hb7)
 have HR7:=Hz (HR6.o.below hb7)
 clear hb7 HX6 HL6 HB6 HR6
 have y0:=HX7.o.cell (i:=0) rfl
 have y1:=HX7.o.cell (i:=1) rfl
 have y2:=HX7.o.cell (i:=2) rfl
 have y3:=HX7.o.cell (i:=3) rfl
 have y4:=HX7.o.cell (i:=4) rfl
 have y5:=HX7.o.cell (i:=5) rfl
 have y6:=HX7.o.cell (i:=6) rfl
 have y7:=HX7.o.cell (i:=7) rfl
 go_wp2_with (refine Qq rfl 33 (.tmp 2) (.tmp 46) rfl w.heap.size rfl zeroI rfl HB7.o rfl Q7 Zv ?_;intro w11 hB11 ho11)
 have k0:=hB11.o.cell (i:=0) rfl
 have k1:=hB11.o.cell (i:=1) rfl
 have k2:=hB11.o.cell (i:=2) rfl
 have k3:=hB11.o.cell (i:=3) rfl
 have k4:=hB11.o.cell (i:=4) rfl
 have k5:=hB11.o.cell (i:=5) rfl
 have k6:=hB11.o.cell (i:=6) rfl
 have k7:=hB11.o.cell (i:=7) rfl
 refine bodyPost_ret (v:=.tuple #[.agg #[.int .i64 0,.int .i64 0,.int .i64 0,.int .i64 0,.int .i64 0,.int .i64 0,.int .i64 0,.slice none 0 0],.int .i64 3]) (by simp [results,Tryz.results96,go_sem,k0,k1,k2,k3,k4,k5,k6,k7]) rfl ?_
 exact⟨rfl,ho11.o.below HL7.o (Mr _) HL7.o.size⟩
def Gi (w:World) (i:Ig) (e:Ending) (w':World):Prop:=∃B m d,e=.returned (.tuple #[.agg #[.int .i64 i.p,.int .i64 i.v,.int .i64 i.h,.int .i64 i.m,.int .i64 i.f,.int .i64 i.s,.int .i64 i.r,.slice B m d],.int .i64 i.e])∧Rd w' B m d (u8n i.xs)∧Bw w w'
theorem Gt.gi {w w':World} {x:Int} {e:Ending} (h:Gt w zeroV x e w'):Gi w (Ig.no x) e w':=⟨none,0,0,h.1,Rd.nil w',h.2⟩
theorem get_any (A:Option Addr) (n c:Nat) (ys:List Nat) (w:World) (hT:Tab w) (hR:Rd w A n c (u8n ys)) (hx:by256 ys) (hm:n≤1000):Calls Tryz.prog 96 #[.slice A n c] w (Gi w (iG ys)):=by
 have hn:ys.length=n:=Rd.nats hR
 unfold iG
 by_cases h1:ys.length<36
 ·rw [if_pos h1]
  exact (get_short A n c w (by omega)).mono fun _ _ h=>Gt.gi h
 rw [if_neg h1]
 by_cases h2:ys≠closed (ys.take (ys.length-36))
 ·rw [if_pos h2]
  exact (get_bad A n c ys w hT hR hx (by omega) (by omega) (by rw [←hn];exact h2)).mono fun _ _ h=>Gt.gi h
 rw [if_neg h2]
 have h2':ys=closed (ys.take (ys.length-36)):=Mc_ h2
 obtain⟨zs,hzs⟩:∃zs,zs=ys.take (ys.length-36):=⟨_,rfl⟩
 rw [←hzs] at h2' ⊢
 have hz:by256 zs:=fun u hu=>hx u (by rw [hzs] at hu;exact List.mem_of_mem_take hu)
 have hzl:zs.length≤1000:=by rw [hzs,Mk_];omega
 have hR':Rd w A n c (u8n (closed zs)):=by rw [←h2'];exact hR
 by_cases h3:zs.take 2≠[76,73]
 ·rw [if_pos h3]
  exact (get_form A n c zs w hT hR' hz hzl h3).mono fun _ _ h=>Gt.gi h
 rw [if_neg h3]
 have h3':zs.take 2=[76,73]:=Mc_ h3
 have hz2:2≤zs.length:=by
  have:=congrArg List.length h3'
  rw [Mk_] at this
  have e:([76,73]:List Nat).length=2:=rfl
  omega
 have hzd:by256 (zs.drop 2):=fun u hu=>hz u (List.mem_of_mem_drop hu)
 obtain⟨d,hd⟩:∃d,d=zs.drop 2:=⟨_,rfl⟩
 rw [←hd] at hzd ⊢
 have r1:TabR.rdN 1 (nl (zs.drop 2)) 0=((q1 d).1,(q1 d).2.1,(q1 d).2.2):=by rw [←hd];rfl
 have he:=rdI_e d
 by_cases h4:(rdI d).e≠0
 ·rw [if_pos h4]
  rcases he with e0|e0|e0
  ·exact absurd e0 h4
  ·rw [e0]
   exact (get_cut A n c zs w hT hR' hz hz2 hzl h3' r1 (show TabR.rdN 2 (q1 d).2.1 (q1 d).2.2=((q2 d).1,(q2 d).2.1,(q2 d).2.2) from rfl) (show TabR.rdN 2 (q2 d).2.1 (q2 d).2.2=((q3 d).1,(q3 d).2.1,(q3 d).2.2) from rfl) (show TabR.rdN 1 (q3 d).2.1 (q3 d).2.2=((q4 d).1,(q4 d).2.1,(q4 d).2.2) from rfl) (show TabR.rdN 1 (q4 d).2.1 (q4 d).2.2=((q5 d).1,(q5 d).2.1,(q5 d).2.2) from rfl) (show TabR.rdN 1 (q5 d).2.1 (q5 d).2.2=((q6 d).1,(q6 d).2.1,(q6 d).2.2) from rfl) (show TabR.rdN 1 (q6 d).2.1 (q6 d).2.2=((q7 d).1,(q7 d).2.1,(q7 d).2.2) from rfl) (show TxtR.rtx (q7 d).2.1 (q7 d).2.2=((q8 d).1,(q8 d).2.1,(q8 d).2.2) from rfl) e0).mono fun _ _ h=>Gt.gi h
  ·rw [e0]
   exact (get_left A n c zs w hT hR' hz hz2 hzl h3' r1 (show TabR.rdN 2 (q1 d).2.1 (q1 d).2.2=((q2 d).1,(q2 d).2.1,(q2 d).2.2) from rfl) (show TabR.rdN 2 (q2 d).2.1 (q2 d).2.2=((q3 d).1,(q3 d).2.1,(q3 d).2.2) from rfl) (show TabR.rdN 1 (q3 d).2.1 (q3 d).2.2=((q4 d).1,(q4 d).2.1,(q4 d).2.2) from rfl) (show TabR.rdN 1 (q4 d).2.1 (q4 d).2.2=((q5 d).1,(q5 d).2.1,(q5 d).2.2) from rfl) (show TabR.rdN 1 (q5 d).2.1 (q5 d).2.2=((q6 d).1,(q6 d).2.1,(q6 d).2.2) from rfl) (show TabR.rdN 1 (q6 d).2.1 (q6 d).2.2=((q7 d).1,(q7 d).2.1,(q7 d).2.2) from rfl) (show TxtR.rtx (q7 d).2.1 (q7 d).2.2=((q8 d).1,(q8 d).2.1,(q8 d).2.2) from rfl) e0).mono fun _ _ h=>Gt.gi h
 rw [if_neg h4]
 have e0:TabR.endN (q8 d).2.1 (q8 d).2.2=0:=Mc_ h4
 have hcl:(rdI d).xs.length≤1000:=by
  show ((q8 d).1.map Int.toNat).length≤1000
  rw [List.length_map]
  exact Ml (q8_len d) (by rw [hd,List.length_drop];omega)
 by_cases h5:(rdI d).right
 ·rw [if_pos h5]
  refine (get_ok A n c zs w hT hR' hz hz2 hzl h3' r1 (show TabR.rdN 2 (q1 d).2.1 (q1 d).2.2=((q2 d).1,(q2 d).2.1,(q2 d).2.2) from rfl) (show TabR.rdN 2 (q2 d).2.1 (q2 d).2.2=((q3 d).1,(q3 d).2.1,(q3 d).2.2) from rfl) (show TabR.rdN 1 (q3 d).2.1 (q3 d).2.2=((q4 d).1,(q4 d).2.1,(q4 d).2.2) from rfl) (show TabR.rdN 1 (q4 d).2.1 (q4 d).2.2=((q5 d).1,(q5 d).2.1,(q5 d).2.2) from rfl) (show TabR.rdN 1 (q5 d).2.1 (q5 d).2.2=((q6 d).1,(q6 d).2.1,(q6 d).2.2) from rfl) (show TabR.rdN 1 (q6 d).2.1 (q6 d).2.2=((q7 d).1,(q7 d).2.1,(q7 d).2.2) from rfl) (show TxtR.rtx (q7 d).2.1 (q7 d).2.2=((q8 d).1,(q8 d).2.1,(q8 d).2.2) from rfl) e0 (q8_nl hzd) (fun A c=>h5) (by have:=h5.2.2.2.2.2.2.2.2;exact_mod_cast this)).mono ?_
  rintro e w' ⟨B,d',⟨he,hb⟩,hr⟩
  refine⟨B,_,d',?_,hr,hb⟩
  rw [he,show (rdI d).e=0 from e0]
  rfl
 ·rw [if_neg h5]
  exact (get_range A n c zs w hT hR' hz hz2 hzl h3' r1 (show TabR.rdN 2 (q1 d).2.1 (q1 d).2.2=((q2 d).1,(q2 d).2.1,(q2 d).2.2) from rfl) (show TabR.rdN 2 (q2 d).2.1 (q2 d).2.2=((q3 d).1,(q3 d).2.1,(q3 d).2.2) from rfl) (show TabR.rdN 1 (q3 d).2.1 (q3 d).2.2=((q4 d).1,(q4 d).2.1,(q4 d).2.2) from rfl) (show TabR.rdN 1 (q4 d).2.1 (q4 d).2.2=((q5 d).1,(q5 d).2.1,(q5 d).2.2) from rfl) (show TabR.rdN 1 (q5 d).2.1 (q5 d).2.2=((q6 d).1,(q6 d).2.1,(q6 d).2.2) from rfl) (show TabR.rdN 1 (q6 d).2.1 (q6 d).2.2=((q7 d).1,(q7 d).2.1,(q7 d).2.2) from rfl) (show TxtR.rtx (q7 d).2.1 (q7 d).2.2=((q8 d).1,(q8 d).2.1,(q8 d).2.2) from rfl) e0 (q8_nl hzd) (fun A c=>h5) (by have:=hcl;exact Ml this (by decide))).mono fun _ _ h=>Gt.gi h
end ImgU
namespace Fld
theorem Zg {P:Program} {T:TypeId} {fs:Array Field} {f:Field} {k:Nat} {xs:List Value} {v:Value} (ht:P.underlying T=some (.struct fs)) (hf:fs[k]?=some f) (hd:∃d,P.underlying f.type=some (.int d)) (hv:xs[f.offset]?=some v) (w:World) :
 (Instr.field T (.agg xs.toArray) k).run P w=.ok v w:=by
 obtain⟨d,hd⟩:=hd
 simp [Instr.field,run_underlying ht,hf,part,isAgg,run_underlying hd,hv,asAgg]
end Fld
namespace StoN
open Kit Byt Mem DskA StgM CmtM
open RecA (rval rcells rok sval scells sok)
open StgN (Sm DS Sgo)
open CmtN (Lm LS Lgo)
open TabA (Tri Tris Ta)
open ImgT (Ig iG)
open ImgU (Gi)
open ShaM (by256)
open ShaE (Tab)
theorem rfield (r0 r1 r2 r3 r4 r5:Int) (w:World):(Instr.field 66 (.agg #[.int .i64 r0,.int .i64 r1,.int .i64 r2,.int .i64 r3,.int .i64 r4,.int .i64 r5]) 0).run Tryz.prog w=.ok (.int .i64 r0) w∧(Instr.field 66 (.agg #[.int .i64 r0,.int .i64 r1,.int .i64 r2,.int .i64 r3,.int .i64 r4,.int .i64 r5]) 2).run Tryz.prog w=.ok (.int .i64 r2) w∧(Instr.field 66 (.agg #[.int .i64 r0,.int .i64 r1,.int .i64 r2,.int .i64 r3,.int .i64 r4,.int .i64 r5]) 3).run Tryz.prog w=.ok (.int .i64 r3) w:=
 ⟨Fld.Zg (xs:=[.int .i64 r0,.int .i64 r1,.int .i64 r2,.int .i64 r3,.int .i64 r4,.int .i64 r5]) Tryz.underlying66 rfl ⟨_,Tryz.underlying3⟩ rfl w,Fld.Zg (xs:=[.int .i64 r0,.int .i64 r1,.int .i64 r2,.int .i64 r3,.int .i64 r4,.int .i64 r5]) Tryz.underlying66 rfl ⟨_,Tryz.underlying3⟩ rfl w,Fld.Zg (xs:=[.int .i64 r0,.int .i64 r1,.int .i64 r2,.int .i64 r3,.int .i64 r4,.int .i64 r5]) Tryz.underlying66 rfl ⟨_,Tryz.underlying3⟩ rfl w⟩
theorem V8 (c:Int) (hc:0≤c∧c≤1) (w:World):Calls Tryz.prog 54 #[.int .i64 c] w fun e w'=>e=.returned (.int .i64 (1-c))∧w=w':=by
 have e:IntKind.i64.wrap (1-c)=1-c:=by rw [Mi_];omega
 go_enter Tryz.func54,Tryz.ntmps54
 go_wp2
 go_ret
 exact⟨rfl,rfl⟩
section
variable {w:World} {J:Nat→Prop} {a g:Nat} {l:Lg}
theorem qvo (h:Lm w J a g l) (b:Bool) (hb:b=true↔l.r.a≠l.r.c) (s0 s1 d:Nat) :
 Calls Tryz.prog 60 #[pval d a s0 s1] w fun e w'=>e=.returned (.bool b)∧Bw w w':=by
 have L0:=Hz (show Bw w (w.alloc (.cells #[.pointer (some ⟨a,0,none⟩),.pointer (some ⟨s0,0,none⟩),.pointer (some ⟨s1,0,none⟩),.pointer (some ⟨d,0,none⟩)] 80)) from (Mb _ _).alloc (Mr _) _)
 have hl:=fun w' (hb:Bw w w')=>CmtN.Uk J g a l w' (h.below hb)
 obtain⟨r,hr⟩:∃r,r=l.r:=⟨_,rfl⟩
 rw [←hr] at hl hb
 obtain⟨r0,r1,ra,rc,r4,r5⟩:=r
 dsimp only [rval] at hl
 have HL:=Hz hl
 clear hl
 have HB:=Hz hb
 clear h hr hb
 go_enter Tryz.func60,Tryz.ntmps60
 go_wp2_with (go_at_call 32;refine (HL.o _ L0.o).mono ?_;rintro e w1 ⟨rfl,hb1⟩;have L1:=Hz (L0.o.trans (hb1.mono L0.o.size));clear hb1)
 go_ret
 exact⟨Q3 (by rw [Bool.eq_iff_iff,HB.o];simp),L1.o.alloc L1.o.size _⟩
theorem qjn (h:Lm w J a g l) (hc:0≤l.r.c∧l.r.c≤1) (s0 s1 d q:Nat) (hq:q=if l.r.c=0 then s1 else s0) :
 Calls Tryz.prog 49 #[pval d a s0 s1] w fun e w'=>e=.returned (.pointer (some ⟨q,0,none⟩))∧Bw w w':=by
 have L0:=Hz (show Bw w (w.alloc (.cells #[.pointer (some ⟨a,0,none⟩),.pointer (some ⟨s0,0,none⟩),.pointer (some ⟨s1,0,none⟩),.pointer (some ⟨d,0,none⟩)] 80)) from (Mb _ _).alloc (Mr _) _)
 have HB0:=Hz (show Blk (w.alloc (.cells #[.pointer (some ⟨a,0,none⟩),.pointer (some ⟨s0,0,none⟩),.pointer (some ⟨s1,0,none⟩),.pointer (some ⟨d,0,none⟩)] 80)) w.heap.size 80 (pcs d a s0 s1) from Blk.new w _ _)
 have hl:=fun w' (hb:Bw w w')=>CmtN.Uk J g a l w' (h.below hb)
 obtain⟨r,hr⟩:∃r,r=l.r:=⟨_,rfl⟩
 rw [←hr] at hl hc hq
 obtain⟨r0,r1,ra,rc,r4,r5⟩:=r
 dsimp only [rval] at hl
 have HL:=Hz hl
 clear hl
 clear h hr
 rcases (show rc=0∨rc=1 from by have h1:=hc.1;have h2:=hc.2;simp only at h1 h2;omega) with rfl|rfl
 ·obtain rfl:q=s1:=hq
  have HO:=Hz (fun w'=>(show Calls Tryz.prog 54 #[.int .i64 0] w' fun e w''=>e=.returned (.int .i64 1)∧w'=w'' from V8 0 hc w'))
  have hfl:=fun w=>(rfield r0 r1 ra 0 r4 r5 w).2.2
  clear hc
  go_enter Tryz.func49,Tryz.ntmps49
  go_wp2_with (first
   | (go_at_call 32;refine (HL.o _ L0.o).mono ?_;rintro e w1 ⟨rfl,hb1⟩;have L1:=Hz (L0.o.trans (hb1.mono L0.o.size));have HB1:=HB0.o.below hb1;have c2:=HB1.cell (i:=2) rfl;clear hb1 HB1)
   | (go_at_call 54;refine (HO.o _).mono ?_;rintro e w2 ⟨rfl,rfl⟩))
  go_ret
  exact⟨rfl,L1.o⟩
 ·obtain rfl:q=s0:=hq
  have HO:=Hz (fun w'=>(show Calls Tryz.prog 54 #[.int .i64 1] w' fun e w''=>e=.returned (.int .i64 0)∧w'=w'' from V8 1 hc w'))
  have hfl:=fun w=>(rfield r0 r1 ra 1 r4 r5 w).2.2
  clear hc
  go_enter Tryz.func49,Tryz.ntmps49
  go_wp2_with (first
   | (go_at_call 32;refine (HL.o _ L0.o).mono ?_;rintro e w1 ⟨rfl,hb1⟩;have L1:=Hz (L0.o.trans (hb1.mono L0.o.size));have HB1:=HB0.o.below hb1;have c1:=HB1.cell (i:=1) rfl;clear hb1 HB1)
   | (go_at_call 54;refine (HO.o _).mono ?_;rintro e w2 ⟨rfl,rfl⟩))
  go_ret
  exact⟨rfl,L1.o⟩
end
def kim (s:St) (t:Slt):Ig:=if (pY s t).2=0 then iG (pY s t).1 else Ig.no (pY s t).2
def zim:List Value:=[.int .i64 0,.int .i64 0,.int .i64 0,.int .i64 0,.int .i64 0,.int .i64 0,.int .i64 0,.slice none 0 0]
theorem J8:(Tryz.prog.info? 33).map (·.size)=some 8:=by kernel_rfl
def igcs (i:Ig) (B:Option Addr) (m d:Nat):List Value:=[.int .i64 i.p,.int .i64 i.v,.int .i64 i.h,.int .i64 i.m,.int .i64 i.f,.int .i64 i.s,.int .i64 i.r,.slice B m d]
theorem one_igcs (i:Ig) (B:Option Addr) (m d:Nat):∀u ∈ igcs i B m d,u.oneCell'=true:=by intro u hu;simp [igcs] at hu;rcases hu with rfl|rfl|rfl|rfl|rfl|rfl|rfl|rfl <;> rfl
theorem rd_ne {w:World} {B:Option Addr} {m d q:Nat} {xs:List Nat} {ty:TypeId} {C:List Value} (hR:Rd w B m d (u8n xs)) (hB:Blk w q ty C) (hC:∀u ∈ C,∀x,u≠.int .u8 x) (hm:0<m):∀b o,B=some ⟨b,o,none⟩→b≠q:=by
 intro b o e1 e2
 obtain⟨b',o',hA,hb,hj⟩:=hR.2.2.2 hm
 rw [e1] at hA
 injection hA with hA
 injection hA with h1 h2
 subst h1 h2 e2
 have hl:xs.length=m:=Rd.nats hR
 have h0:(u8n xs)[0]?=some (.int .u8 ((xs[0]'(by omega):Nat):Int)):=by simp [u8n,show 0<xs.length from by omega]
 have h3:=hj 0 _ h0
 rw [Nat.add_zero,cell_of_row w b o _ _ _ hB] at h3
 have h4:C[o]?=some (.int .u8 ((xs[0]'(by omega):Nat):Int)):=by simpa using h3
 exact hC _ (List.mem_of_getElem? h4) _ rfl
theorem igcs_no (i:Ig) (B:Option Addr) (m d:Nat):∀u ∈ igcs i B m d,∀x,u≠.int .u8 x:=by
 intro u hu x e
 subst e
 simp [igcs] at hu
theorem rd_only {w w':World} {B:Option Addr} {m d q:Nat} {xs:List Nat} {ty:TypeId} {C:List Value} (hR:Rd w B m d (u8n xs)) (hB:Blk w q ty C) (hC:∀u ∈ C,∀x,u≠.int .u8 x) (ho:Only q w w'):Rd w' B m d (u8n xs):=
 (Keep.only (F:=fun i=>i=q) ho rfl).rd hR fun hm b o e=>rd_ne hR hB hC hm b o e
section
variable {w:World} {F J:Nat→Prop} {a g:Nat} {s:St} {t:Slt}
theorem image_any (h:DS w F J g a s t) (hT:Tab w) (hg:t.has=true→t.g.right) (hx:by256 (pY s t).1) (hm:(pY s t).1.length≤1000) (s0 s1 k:Nat) (hk:k=0∧a=s0∨k=1∧a=s1) :
 Calls Tryz.prog 55 #[.agg #[.pointer (some ⟨s0,0,none⟩),.pointer (some ⟨s1,0,none⟩)],.int .i64 (k:Nat)] w (Gi w (kim s t)):=by
 have HY:=Hz (fun w' (hb:Bw w w')=>StgN.Wl F J g a s t w' ⟨h.dk.below hb,h.sm.below hb,h.dis,h.most,h.fits⟩ hg)
 have HT:=Hz (fun w' (hb:Bw w w')=>hT.below hb hT.1)
 have HK:=Hz (show kim s t=if (pY s t).2=0 then iG (pY s t).1 else Ig.no (pY s t).2 from rfl)
 obtain⟨i,hi⟩:∃i,i=kim s t:=⟨_,rfl⟩
 rw [←hi] at HK ⊢
 obtain⟨ys,hys⟩:∃ys,ys=(pY s t).1:=⟨_,rfl⟩
 obtain⟨e0,he0⟩:∃e0,e0=(pY s t).2:=⟨_,rfl⟩
 rw [←hys,←he0] at HK HY
 rw [←hys] at hx hm
 have HX:=Hz hx
 have HM:=Hz hm
 have HG:=Hz (fun (A:Option Addr) (n c:Nat) (w':World) (hb:Bw w w') (hR:Rd w' A n c (u8n ys)) (hn:n≤1000)=>ImgU.get_any A n c ys w' (HT.o w' hb) hR HX.o hn)
 clear h hT hg hi hys he0 hx hm
 obtain⟨w0,hw0⟩:∃w0,w0=(w.alloc (.cells #[.pointer (some ⟨s0,0,none⟩),.pointer (some ⟨s1,0,none⟩)] 78)).alloc (.cells zim.toArray 33):=⟨_,rfl⟩
 have L0:=Hz (show Bw w w0 from by rw [hw0];exact ((Mb _ _).alloc (Mr _) _).alloc (by rw [Ms];omega) _)
 have B0:=Hz (show Blk w0 w.heap.size 78 [.pointer (some ⟨s0,0,none⟩),.pointer (some ⟨s1,0,none⟩)] from by rw [hw0];exact (Blk.new w _ [.pointer (some ⟨s0,0,none⟩),.pointer (some ⟨s1,0,none⟩)]).alloc _)
 have B1:=Hz (show Blk w0 (w.heap.size+1) 33 zim from by
  rw [hw0]
  have:=Blk.new (w.alloc (.cells #[.pointer (some ⟨s0,0,none⟩),.pointer (some ⟨s1,0,none⟩)] 78)) 33 zim
  rw [Ms] at this
  exact this)
 have hw0':(w.alloc (.cells #[.pointer (some ⟨s0,0,none⟩),.pointer (some ⟨s1,0,none⟩)] 78)).alloc (.cells #[.int .i64 0,.int .i64 0,.int .i64 0,.int .i64 0,.int .i64 0,.int .i64 0,.int .i64 0,.slice none 0 0] 33)=w0:=hw0.symm
 clear hw0
 have c0:w0.cell? ⟨w.heap.size,k,none⟩=some (.pointer (some ⟨a,0,none⟩)):=by
  rcases hk with⟨rfl,rfl⟩|⟨rfl,rfl⟩
  ·exact B0.o.cell rfl
  ·exact B0.o.cell rfl
 have hk1:k<2:=by omega
 clear hk
 by_cases h0:e0=0
 ·have HI:=Hz (show i=iG ys from by rw [HK.o,if_pos h0])
  subst h0
  rw [HI.o]
  obtain⟨x,hxx⟩:∃x,x=iG ys:=⟨_,rfl⟩
  rw [←hxx] at HG ⊢
  clear hxx
  go_enter Tryz.func55,Tryz.ntmps55
  go_wp2_with (first
   | (go_at_call 95;refine (HY.o _ L0.o).mono ?_;rintro e w1 ⟨B,m,d,rfl,hR,hb1⟩;have L1:=Hz (L0.o.trans (hb1.mono L0.o.size));have HR:=Hz hR;have HMM:=Hz (show m≤1000 from (by have:=Rd.nats hR;have:=HM.o;omega));have B2:=Hz (B1.o.below hb1);clear hb1 hR)
   | (go_at_call 96;refine (HG.o B m d w1 L1.o HR.o HMM.o).mono ?_;rintro e w2 ⟨B3,m3,d3,rfl,hR3,hb3⟩;have L2:=Hz (L1.o.trans (hb3.mono L1.o.size));have HR3:=Hz hR3;have B4:=Hz (B2.o.below hb3);clear hb3 hR3)
   | (refine Qq rfl 33 (.tmp 4) (.tmp 21) rfl (w.heap.size+1) rfl (igcs x B3 m3 d3) rfl B4.o rfl J8 (one_igcs _ _ _ _) ?_;intro w5 hB5 ho5))
  have q0:=hB5.o.cell (i:=0) rfl
  have q1:=hB5.o.cell (i:=1) rfl
  have q2:=hB5.o.cell (i:=2) rfl
  have q3:=hB5.o.cell (i:=3) rfl
  have q4:=hB5.o.cell (i:=4) rfl
  have q5:=hB5.o.cell (i:=5) rfl
  have q6:=hB5.o.cell (i:=6) rfl
  have q7:=hB5.o.cell (i:=7) rfl
  refine bodyPost_ret (v:=.tuple #[.agg #[.int .i64 x.p,.int .i64 x.v,.int .i64 x.h,.int .i64 x.m,.int .i64 x.f,.int .i64 x.s,.int .i64 x.r,.slice B3 m3 d3],.int .i64 x.e]) (by simp [results,Tryz.results55,go_sem,q0,q1,q2,q3,q4,q5,q6,q7]) rfl ?_
  have hs2:=L2.o.size
  exact⟨B3,m3,d3,rfl,rd_only HR3.o B4.o (igcs_no (Ig.no 0) none 0 0) ho5.o,ho5.o.below L2.o (by omega) hs2⟩
 ·have HI:=Hz (show i=Ig.no e0 from by rw [HK.o,if_neg h0])
  rw [HI.o]
  clear HG HM HX
  go_enter Tryz.func55,Tryz.ntmps55
  go_wp2_with (first
   | (go_at_call 95;refine (HY.o _ L0.o).mono ?_;rintro e w1 ⟨B,m,d,rfl,hR,hb1⟩;have L1:=Hz (L0.o.trans (hb1.mono L0.o.size));have B2:=Hz (B1.o.below hb1);clear hb1 hR)
   | (refine Qq rfl 33 (.tmp 4) (.tmp 17) rfl (w.heap.size+1) rfl zim rfl B2.o rfl J8 (one_igcs (Ig.no 0) none 0 0) ?_;intro w5 hB5 ho5))
  have q0:=hB5.o.cell (i:=0) rfl
  have q1:=hB5.o.cell (i:=1) rfl
  have q2:=hB5.o.cell (i:=2) rfl
  have q3:=hB5.o.cell (i:=3) rfl
  have q4:=hB5.o.cell (i:=4) rfl
  have q5:=hB5.o.cell (i:=5) rfl
  have q6:=hB5.o.cell (i:=6) rfl
  have q7:=hB5.o.cell (i:=7) rfl
  refine bodyPost_ret (v:=.tuple #[.agg #[.int .i64 0,.int .i64 0,.int .i64 0,.int .i64 0,.int .i64 0,.int .i64 0,.int .i64 0,.slice none 0 0],.int .i64 e0]) (by simp [results,Tryz.results55,go_sem,q0,q1,q2,q3,q4,q5,q6,q7]) rfl ?_
  have hs1:=L1.o.size
  exact⟨none,0,0,rfl,Rd.nil _,ho5.o.below L1.o (by omega) hs1⟩
end
end StoN
namespace StoN
open Mem StoM
open RecA (rval rcells rok sval scells sok)
open StgN (Sm DS Sgo)
open CmtN (Lm LS Lgo)
open TabA (Tri Tris Ta)
theorem Qy:(Tryz.prog.info? 80).map (·.size)=some 4:=by kernel_rfl
theorem one_pcs (g la s0 s1:Nat):∀u ∈ pcs g la s0 s1,u.oneCell'=true:=by intro u hu;simp [pcs] at hu;rcases hu with rfl|rfl|rfl|rfl <;> rfl
def pzs:List Value:=[.pointer none,.pointer none,.pointer none,.pointer none]
theorem Yh:∀u ∈ pzs,u.oneCell'=true:=by intro u hu;simp [pzs] at hu;subst hu;rfl
section
variable {w:World} {ζ:Nat→Zl} {g n p:Nat} {t:Ta} {P:Nat→Pt} {Z:Lo}
theorem at_no (h:Zm w ζ g t n P Z) (q:Int) (hq:q<0∨(n:Int)≤q):Calls Tryz.prog 58 #[.pointer (some ⟨Z.z,0,none⟩),.int .i64 q] w fun e w'=>e=.returned (.tuple #[pzero,.int .i64 3])∧Bw w w':=by
 obtain⟨_,_,_,_,_,c5⟩:=h.tcells
 have hn:=h.n4
 have hzl:=h.head.lt
 have hnc:=hn.2.2.2
 have hn4:=hn.2.1
 clear h hn
 by_cases h0:q<0
 ·go_enter Tryz.func58,Tryz.ntmps58
  go_wp2
  refine bodyPost_ret (v:=.tuple #[pzero,.int .i64 3]) (by simp [results,Tryz.results58,go_sem]) rfl ?_
  exact⟨rfl,(Mb _ _).alloc (Mr _) _⟩
 ·have h1:(n:Int)≤q:=by omega
  clear hq
  go_enter Tryz.func58,Tryz.ntmps58
  go_wp2
  refine bodyPost_ret (v:=.tuple #[pzero,.int .i64 3]) (by simp [results,Tryz.results58,go_sem]) rfl ?_
  exact⟨rfl,(Mb _ _).alloc (Mr _) _⟩
theorem at_yes (h:Zm w ζ g t n P Z) (hp:p<n):Calls Tryz.prog 58 #[.pointer (some ⟨Z.z,0,none⟩),.int .i64 (p:Nat)] w fun e w'=>e=.returned (.tuple #[pval g (Z.la p) (Z.sa p 0) (Z.sa p 1),.int .i64 0])∧Bw w w':=by
 obtain⟨_,_,_,_,_,c5⟩:=h.tcells
 have hn:=h.n4
 have hzl:=h.head.lt
 have hbl:=h.list.lt
 have HL:=Hz (h.list.alloc (.cells pzs.toArray 80))
 have HO:=Hz (h.own p hp).2
 have hnc:=hn.2.2.2
 have hn4:=hn.2.1
 obtain⟨la,hla⟩:∃la,la=Z.la p:=⟨_,rfl⟩
 obtain⟨s0,hs0⟩:∃s0,s0=Z.sa p 0:=⟨_,rfl⟩
 obtain⟨s1,hs1⟩:∃s1,s1=Z.sa p 1:=⟨_,rfl⟩
 rw [←hla,←hs0,←hs1] at HO ⊢
 obtain⟨z,hz⟩:∃z,z=Z.z:=⟨_,rfl⟩
 obtain⟨pb,hpb⟩:∃pb,pb=Z.pb:=⟨_,rfl⟩
 obtain⟨pc,hpc⟩:∃pc,pc=Z.pc:=⟨_,rfl⟩
 rw [←hz] at c5 hzl ⊢
 rw [←hpb] at c5 hbl HL
 rw [←hpc] at c5 hnc
 have hnp:=hn.2.2.1
 rw [←hpc] at hnp
 clear h hn hla hs0 hs1 hz hpb hpc
 go_enter Tryz.func58,Tryz.ntmps58
 go_wp2_with (refine Qz rfl 80 (.tmp 28) rfl pb (p*4) rfl [.pointer (some ⟨la,0,none⟩),.pointer (some ⟨s0,0,none⟩),.pointer (some ⟨s1,0,none⟩),.pointer (some ⟨g,0,none⟩)] HL.o HO.o Tryz.underlying80 rfl Qy ?_)
 refine bodyPost_ret (v:=.tuple #[pval g la s0 s1,.int .i64 0]) (by simp [results,Tryz.results58,go_sem]) rfl ?_
 exact⟨rfl,(Mb _ _).alloc (Mr _) _⟩
end
section
variable {w:World} {ζ:Nat→Zl} {g n p:Nat} {t:Ta} {P:Nat→Pt} {Z:Lo}
def No (w:World) (x:Int) (e:Ending) (w':World):Prop:=e=.returned (.tuple #[pzero,.int .i64 x])∧Bw w w'
def Is (w:World) (g la s0 s1:Nat) (e:Ending) (w':World):Prop:=e=.returned (.tuple #[pval g la s0 s1,.int .i64 0])∧Bw w w'
theorem qjo (zv:Value) (q x:Int) (hx:x≠0) (H:∀w',Bw w w'→Calls Tryz.prog 58 #[zv,.int .i64 q] w' (No w' x)) :
 Calls Tryz.prog 46 #[zv,.int .i64 q] w (No w x):=by
 have HA:=Hz H
 have L0:=Hz (show Bw w (w.alloc (.cells pzs.toArray 80)) from (Mb _ _).alloc (Mr _) _)
 have B0:=Hz (Blk.new w 80 pzs)
 clear H
 go_enter Tryz.func46,Tryz.ntmps46
 go_wp2_with (first
  | (go_at_call 58;refine (HA.o _ L0.o).mono ?_;rintro e w1 ⟨rfl,hb1⟩;have L1:=Hz (L0.o.trans (hb1.mono L0.o.size));have B1:=Hz (B0.o.below hb1);have B2:=Hz (B1.o.alloc (.cells pzs.toArray 80));clear hb1)
  | (refine Qq rfl 80 (.tmp 4) (.tmp 17) rfl w.heap.size rfl pzs rfl B2.o rfl Qy Yh ?_;intro w5 hB5 ho5))
 have q0:=hB5.o.cell (i:=0) rfl
 have q1:=hB5.o.cell (i:=1) rfl
 have q2:=hB5.o.cell (i:=2) rfl
 have q3:=hB5.o.cell (i:=3) rfl
 refine bodyPost_ret (v:=.tuple #[pzero,.int .i64 x]) (by simp [results,Tryz.results46,go_sem,q0,q1,q2,q3]) rfl ?_
 exact⟨rfl,ho5.o.below (L1.o.alloc L1.o.size _) (Mr _) (by have:=L1.o.size;rw [Ms];omega)⟩
theorem Tv (zv:Value) (q:Int) (d la s0 s1:Nat) (H:∀w',Bw w w'→Calls Tryz.prog 58 #[zv,.int .i64 q] w' (Is w' d la s0 s1))
 (H2:∀w',Bw w w'→Calls Tryz.prog 60 #[pval d la s0 s1] w' fun e w''=>e=.returned (.bool true)∧Bw w' w'') :
 Calls Tryz.prog 46 #[zv,.int .i64 q] w (No w 18):=by
 have HA:=Hz H
 have HT:=Hz H2
 have L0:=Hz (show Bw w (w.alloc (.cells pzs.toArray 80)) from (Mb _ _).alloc (Mr _) _)
 have B0:=Hz (Blk.new w 80 pzs)
 clear H H2
 go_enter Tryz.func46,Tryz.ntmps46
 go_wp2_with (first
  | (go_at_call 58;refine (HA.o _ L0.o).mono ?_;rintro e w1 ⟨rfl,hb1⟩;have L1:=Hz (L0.o.trans (hb1.mono L0.o.size));have B1:=Hz (B0.o.below hb1);have L2:=Hz (L1.o.alloc L1.o.size (.cells (pcs d la s0 s1).toArray 80));have B2:=Hz (B1.o.alloc (.cells (pcs d la s0 s1).toArray 80));have X2:=Hz (Blk.new w1 80 (pcs d la s0 s1));clear hb1)
  | (go_at_call 60;refine (HT.o _ L2.o).mono ?_;rintro e w3 ⟨rfl,hb3⟩;have L3:=Hz (L2.o.trans (hb3.mono L2.o.size));have B3:=Hz (B2.o.below hb3);have X3:=Hz (X2.o.below hb3);clear hb3)
  | (refine Qj rfl 80 (.tmp 6) rfl w1.heap.size rfl X3.o Tryz.underlying80 rfl Qy ?_)
  | (refine Qq rfl 80 (.tmp 4) (.tmp 22) rfl w.heap.size rfl pzs rfl B3.o rfl Qy Yh ?_;intro w5 hB5 ho5))
 have q0:=hB5.o.cell (i:=0) rfl
 have q1:=hB5.o.cell (i:=1) rfl
 have q2:=hB5.o.cell (i:=2) rfl
 have q3:=hB5.o.cell (i:=3) rfl
 refine bodyPost_ret (v:=.tuple #[pzero,.int .i64 18]) (by simp [results,Tryz.results46,go_sem,q0,q1,q2,q3]) rfl ?_
 exact⟨rfl,ho5.o.below L3.o (Mr _) L3.o.size⟩
theorem qjp (zv:Value) (q:Int) (d la s0 s1:Nat) (H:∀w',Bw w w'→Calls Tryz.prog 58 #[zv,.int .i64 q] w' (Is w' d la s0 s1))
 (H2:∀w',Bw w w'→Calls Tryz.prog 60 #[pval d la s0 s1] w' fun e w''=>e=.returned (.bool false)∧Bw w' w'') :
 Calls Tryz.prog 46 #[zv,.int .i64 q] w (Is w d la s0 s1):=by
 have HA:=Hz H
 have HT:=Hz H2
 have L0:=Hz (show Bw w (w.alloc (.cells pzs.toArray 80)) from (Mb _ _).alloc (Mr _) _)
 have B0:=Hz (Blk.new w 80 pzs)
 clear H H2
 go_enter Tryz.func46,Tryz.ntmps46
 go_wp2_with (first
  | (go_at_call 58;refine (HA.o _ L0.o).mono ?_;rintro e w1 ⟨rfl,hb1⟩;have L1:=Hz (L0.o.trans (hb1.mono L0.o.size));have B1:=Hz (B0.o.below hb1);have L2:=Hz (L1.o.alloc L1.o.size (.cells (pcs d la s0 s1).toArray 80));have B2:=Hz (B1.o.alloc (.cells (pcs d la s0 s1).toArray 80));have X2:=Hz (Blk.new w1 80 (pcs d la s0 s1));clear hb1)
  | (go_at_call 60;refine (HT.o _ L2.o).mono ?_;rintro e w3 ⟨rfl,hb3⟩;have L3:=Hz (L2.o.trans (hb3.mono L2.o.size));have B3:=Hz (B2.o.below hb3);have X3:=Hz (X2.o.below hb3);clear hb3)
  | (refine Qj rfl 80 (.tmp 6) rfl w1.heap.size rfl X3.o Tryz.underlying80 rfl Qy ?_)
  | (refine Qq rfl 80 (.tmp 4) (.tmp 23) rfl w.heap.size rfl (pcs d la s0 s1) rfl B3.o rfl Qy (one_pcs _ _ _ _) ?_;intro w5 hB5 ho5))
 have q0:=hB5.o.cell (i:=0) rfl
 have q1:=hB5.o.cell (i:=1) rfl
 have q2:=hB5.o.cell (i:=2) rfl
 have q3:=hB5.o.cell (i:=3) rfl
 refine bodyPost_ret (v:=.tuple #[pval d la s0 s1,.int .i64 0]) (by simp [results,Tryz.results46,go_sem,q0,q1,q2,q3]) rfl ?_
 exact⟨rfl,ho5.o.below L3.o (Mr _) L3.o.size⟩
theorem qvp (zv:Value) (q ses x:Int) (hx:x≠0) (H:∀w',Bw w w'→Calls Tryz.prog 46 #[zv,.int .i64 q] w' (No w' x)) :
 Calls Tryz.prog 53 #[zv,.int .i64 q,.int .i64 ses] w (No w x):=by
 have HA:=Hz H
 have L0:=Hz (show Bw w (w.alloc (.cells pzs.toArray 80)) from (Mb _ _).alloc (Mr _) _)
 have B0:=Hz (Blk.new w 80 pzs)
 clear H
 go_enter Tryz.func53,Tryz.ntmps53
 go_wp2_with (first
  | (go_at_call 46;refine (HA.o _ L0.o).mono ?_;rintro e w1 ⟨rfl,hb1⟩;have L1:=Hz (L0.o.trans (hb1.mono L0.o.size));have B1:=Hz (B0.o.below hb1);have B2:=Hz (B1.o.alloc (.cells pzs.toArray 80));clear hb1)
  | (refine Qq rfl 80 (.tmp 6) (.tmp 20) rfl w.heap.size rfl pzs rfl B2.o rfl Qy Yh ?_;intro w5 hB5 ho5))
 have q0:=hB5.o.cell (i:=0) rfl
 have q1:=hB5.o.cell (i:=1) rfl
 have q2:=hB5.o.cell (i:=2) rfl
 have q3:=hB5.o.cell (i:=3) rfl
 refine bodyPost_ret (v:=.tuple #[pzero,.int .i64 x]) (by simp [results,Tryz.results53,go_sem,q0,q1,q2,q3]) rfl ?_
 exact⟨rfl,ho5.o.below (L1.o.alloc L1.o.size _) (Mr _) (by have:=L1.o.size;rw [Ms];omega)⟩
theorem qvq (zv:Value) (q ses gs gz gh:Int) (d la s0 s1 y:Nat) (H:∀w',Bw w w'→Calls Tryz.prog 46 #[zv,.int .i64 q] w' (Is w' d la s0 s1))
 (H2:∀w',Bw w w'→Calls Tryz.prog 49 #[pval d la s0 s1] w' fun e w''=>e=.returned (.pointer (some ⟨y,0,none⟩))∧Bw w' w'')
 (H3:∀w',Bw w w'→Calls Tryz.prog 76 #[.pointer (some ⟨y,0,none⟩)] w' fun e w''=>e=.returned (.tuple #[.agg #[.int .i64 gs,.int .i64 gz,.int .i64 gh],.bool false])∧Bw w' w'') :
 Calls Tryz.prog 53 #[zv,.int .i64 q,.int .i64 ses] w (No w 16):=by
 have HA:=Hz H
 have HT:=Hz H2
 have HS:=Hz H3
 have L0:=Hz (show Bw w (w.alloc (.cells pzs.toArray 80)) from (Mb _ _).alloc (Mr _) _)
 have B0:=Hz (Blk.new w 80 pzs)
 clear H H2 H3
 go_enter Tryz.func53,Tryz.ntmps53
 go_wp2_with (first
  | (go_at_call 46;refine (HA.o _ L0.o).mono ?_;rintro e w1 ⟨rfl,hb1⟩;have L1:=Hz (L0.o.trans (hb1.mono L0.o.size));have B1:=Hz (B0.o.below hb1);have L2:=Hz (L1.o.alloc L1.o.size (.cells (pcs d la s0 s1).toArray 80));have B2:=Hz (B1.o.alloc (.cells (pcs d la s0 s1).toArray 80));have X2:=Hz (Blk.new w1 80 (pcs d la s0 s1));clear hb1)
  | (go_at_call 49;refine (HT.o _ L2.o).mono ?_;rintro e w3 ⟨rfl,hb3⟩;have L3:=Hz (L2.o.trans (hb3.mono L2.o.size));have B3:=Hz (B2.o.below hb3);have X3:=Hz (X2.o.below hb3);clear hb3)
  | (go_at_call 76;refine (HS.o _ L3.o).mono ?_;rintro e w4 ⟨rfl,hb4⟩;have L4:=Hz ((L3.o.trans (hb4.mono L3.o.size)).alloc (L3.o.trans (hb4.mono L3.o.size)).size (.cells #[.int .i64 gs,.int .i64 gz,.int .i64 gh] 103));have B4:=Hz ((B3.o.below hb4).alloc (.cells #[.int .i64 gs,.int .i64 gz,.int .i64 gh] 103));have X4:=Hz ((X3.o.below hb4).alloc (.cells #[.int .i64 gs,.int .i64 gz,.int .i64 gh] 103));clear hb4)
  | (refine Qj rfl 80 (.tmp 8) rfl w1.heap.size rfl X4.o Tryz.underlying80 rfl Qy ?_)
  | (refine Qq rfl 80 (.tmp 6) (.tmp 31) rfl w.heap.size rfl pzs rfl B4.o rfl Qy Yh ?_;intro w5 hB5 ho5))
 have q0:=hB5.o.cell (i:=0) rfl
 have q1:=hB5.o.cell (i:=1) rfl
 have q2:=hB5.o.cell (i:=2) rfl
 have q3:=hB5.o.cell (i:=3) rfl
 refine bodyPost_ret (v:=.tuple #[pzero,.int .i64 16]) (by simp [results,Tryz.results53,go_sem,q0,q1,q2,q3]) rfl ?_
 exact⟨rfl,ho5.o.below L4.o (Mr _) L4.o.size⟩
theorem qvr (zv:Value) (q ses gs gz gh:Int) (d la s0 s1 y:Nat) (hne:gs≠ses) (H:∀w',Bw w w'→Calls Tryz.prog 46 #[zv,.int .i64 q] w' (Is w' d la s0 s1))
 (H2:∀w',Bw w w'→Calls Tryz.prog 49 #[pval d la s0 s1] w' fun e w''=>e=.returned (.pointer (some ⟨y,0,none⟩))∧Bw w' w'')
 (H3:∀w',Bw w w'→Calls Tryz.prog 76 #[.pointer (some ⟨y,0,none⟩)] w' fun e w''=>e=.returned (.tuple #[.agg #[.int .i64 gs,.int .i64 gz,.int .i64 gh],.bool true])∧Bw w' w'') :
 Calls Tryz.prog 53 #[zv,.int .i64 q,.int .i64 ses] w (No w 17):=by
 have HA:=Hz H
 have HT:=Hz H2
 have HS:=Hz H3
 have L0:=Hz (show Bw w (w.alloc (.cells pzs.toArray 80)) from (Mb _ _).alloc (Mr _) _)
 have B0:=Hz (Blk.new w 80 pzs)
 clear H H2 H3
 have hne2:(gs != ses)=true:=by simpa using hne
 go_enter Tryz.func53,Tryz.ntmps53
 go_wp2_with (first
  | (go_at_call 46;refine (HA.o _ L0.o).mono ?_;rintro e w1 ⟨rfl,hb1⟩;have L1:=Hz (L0.o.trans (hb1.mono L0.o.size));have B1:=Hz (B0.o.below hb1);have L2:=Hz (L1.o.alloc L1.o.size (.cells (pcs d la s0 s1).toArray 80));have B2:=Hz (B1.o.alloc (.cells (pcs d la s0 s1).toArray 80));have X2:=Hz (Blk.new w1 80 (pcs d la s0 s1));clear hb1)
  | (go_at_call 49;refine (HT.o _ L2.o).mono ?_;rintro e w3 ⟨rfl,hb3⟩;have L3:=Hz (L2.o.trans (hb3.mono L2.o.size));have B3:=Hz (B2.o.below hb3);have X3:=Hz (X2.o.below hb3);clear hb3)
  | (go_at_call 76;refine (HS.o _ L3.o).mono ?_;rintro e w4 ⟨rfl,hb4⟩;have L4:=Hz ((L3.o.trans (hb4.mono L3.o.size)).alloc (L3.o.trans (hb4.mono L3.o.size)).size (.cells #[.int .i64 gs,.int .i64 gz,.int .i64 gh] 103));have B4:=Hz ((B3.o.below hb4).alloc (.cells #[.int .i64 gs,.int .i64 gz,.int .i64 gh] 103));have X4:=Hz ((X3.o.below hb4).alloc (.cells #[.int .i64 gs,.int .i64 gz,.int .i64 gh] 103));clear hb4)
  | (refine Qj rfl 80 (.tmp 8) rfl w1.heap.size rfl X4.o Tryz.underlying80 rfl Qy ?_)
  | (refine Qq rfl 80 (.tmp 6) (.tmp 37) rfl w.heap.size rfl pzs rfl B4.o rfl Qy Yh ?_;intro w5 hB5 ho5))
 have q0:=hB5.o.cell (i:=0) rfl
 have q1:=hB5.o.cell (i:=1) rfl
 have q2:=hB5.o.cell (i:=2) rfl
 have q3:=hB5.o.cell (i:=3) rfl
 refine bodyPost_ret (v:=.tuple #[pzero,.int .i64 17]) (by simp [results,Tryz.results53,go_sem,q0,q1,q2,q3]) rfl ?_
 exact⟨rfl,ho5.o.below L4.o (Mr _) L4.o.size⟩
theorem qvs (zv:Value) (q ses gs gz gh:Int) (d la s0 s1 y:Nat) (he:gs=ses) (H:∀w',Bw w w'→Calls Tryz.prog 46 #[zv,.int .i64 q] w' (Is w' d la s0 s1))
 (H2:∀w',Bw w w'→Calls Tryz.prog 49 #[pval d la s0 s1] w' fun e w''=>e=.returned (.pointer (some ⟨y,0,none⟩))∧Bw w' w'')
 (H3:∀w',Bw w w'→Calls Tryz.prog 76 #[.pointer (some ⟨y,0,none⟩)] w' fun e w''=>e=.returned (.tuple #[.agg #[.int .i64 gs,.int .i64 gz,.int .i64 gh],.bool true])∧Bw w' w'') :
 Calls Tryz.prog 53 #[zv,.int .i64 q,.int .i64 ses] w (Is w d la s0 s1):=by
 have HA:=Hz H
 have HT:=Hz H2
 have HS:=Hz H3
 have L0:=Hz (show Bw w (w.alloc (.cells pzs.toArray 80)) from (Mb _ _).alloc (Mr _) _)
 have B0:=Hz (Blk.new w 80 pzs)
 clear H H2 H3
 subst he
 go_enter Tryz.func53,Tryz.ntmps53
 go_wp2_with (first
  | (go_at_call 46;refine (HA.o _ L0.o).mono ?_;rintro e w1 ⟨rfl,hb1⟩;have L1:=Hz (L0.o.trans (hb1.mono L0.o.size));have B1:=Hz (B0.o.below hb1);have L2:=Hz (L1.o.alloc L1.o.size (.cells (pcs d la s0 s1).toArray 80));have B2:=Hz (B1.o.alloc (.cells (pcs d la s0 s1).toArray 80));have X2:=Hz (Blk.new w1 80 (pcs d la s0 s1));clear hb1)
  | (go_at_call 49;refine (HT.o _ L2.o).mono ?_;rintro e w3 ⟨rfl,hb3⟩;have L3:=Hz (L2.o.trans (hb3.mono L2.o.size));have B3:=Hz (B2.o.below hb3);have X3:=Hz (X2.o.below hb3);clear hb3)
  | (go_at_call 76;refine (HS.o _ L3.o).mono ?_;rintro e w4 ⟨rfl,hb4⟩;have L4:=Hz ((L3.o.trans (hb4.mono L3.o.size)).alloc (L3.o.trans (hb4.mono L3.o.size)).size (.cells #[.int .i64 gs,.int .i64 gz,.int .i64 gh] 103));have B4:=Hz ((B3.o.below hb4).alloc (.cells #[.int .i64 gs,.int .i64 gz,.int .i64 gh] 103));have X4:=Hz ((X3.o.below hb4).alloc (.cells #[.int .i64 gs,.int .i64 gz,.int .i64 gh] 103));clear hb4)
  | (refine Qj rfl 80 (.tmp 8) rfl w1.heap.size rfl X4.o Tryz.underlying80 rfl Qy ?_)
  | (refine Qq rfl 80 (.tmp 6) (.tmp 38) rfl w.heap.size rfl (pcs d la s0 s1) rfl B4.o rfl Qy (one_pcs _ _ _ _) ?_;intro w5 hB5 ho5))
 have q0:=hB5.o.cell (i:=0) rfl
 have q1:=hB5.o.cell (i:=1) rfl
 have q2:=hB5.o.cell (i:=2) rfl
 have q3:=hB5.o.cell (i:=3) rfl
 refine bodyPost_ret (v:=.tuple #[pval d la s0 s1,.int .i64 0]) (by simp [results,Tryz.results53,go_sem,q0,q1,q2,q3]) rfl ?_
 exact⟨rfl,ho5.o.below L4.o (Mr _) L4.o.size⟩
end
end StoN
namespace CmtN
open Mem DskA DskD RecM CmtM
open RecA (rval rcells rok)
theorem one_zer:∀u ∈ zer,u.oneCell'=true:=one_two Rc.none Rc.none
section
variable {w:World} {F J:Nat→Prop} {a g:Nat} {s:St} {l:Lg}
theorem qvt (hD:Dk w F g s) (h:Lm w J a g l) (hp:l.p≤3) (hf:10*l.p+2≤s.S.length) (hd:s.down=true) :
 Calls Tryz.prog 116 #[.pointer (some ⟨a,0,none⟩)] w fun e w'=>e=.returned (.tuple #[.agg #[.int .i64 0,.int .i64 0,.int .i64 0,.int .i64 0,.int .i64 0,.int .i64 0,.int .i64 0,.int .i64 0,.int .i64 0,.int .i64 0,.int .i64 0,.int .i64 0],.int .i64 8])∧Bw w w':=by
 obtain⟨c0,c1,_,_⟩:=h.cells
 have hal:=h.blk.lt
 have H:=Hz h
 have HP3:=Hz hp
 have HRD:=Hz (fun w' (hb:Bw w w')=>read_down F g s ((10*l.p+0:Nat):Int) w' (hD.below hb) (by simp [inB];omega) hd)
 clear hD h hp hf hd
 have L0:=Hz (show Bw w ((w.alloc (.cells zer.toArray 185)).alloc (.cells zer.toArray 185)) from ((Mb _ _).alloc (Mr _) _).alloc (by rw [Ms];omega) _)
 have B0:=Hz (show Blk ((w.alloc (.cells zer.toArray 185)).alloc (.cells zer.toArray 185)) w.heap.size 185 zer from (Blk.new w _ _).alloc _)
 go_enter Tryz.func116,Tryz.ntmps116
 go_wp2
 obtain⟨w0,hw0⟩:∃w0,w0=(w.alloc (.cells zer.toArray 185)).alloc (.cells zer.toArray 185):=⟨_,rfl⟩
 rw [←hw0] at L0 B0
 have hw0':(w.alloc (.cells #[.int .i64 0,.int .i64 0,.int .i64 0,.int .i64 0,.int .i64 0,.int .i64 0,.int .i64 0,.int .i64 0,.int .i64 0,.int .i64 0,.int .i64 0,.int .i64 0] 185)).alloc (.cells #[.int .i64 0,.int .i64 0,.int .i64 0,.int .i64 0,.int .i64 0,.int .i64 0,.int .i64 0,.int .i64 0,.int .i64 0,.int .i64 0,.int .i64 0,.int .i64 0] 185)=w0:=hw0.symm
 rw [hw0']
 clear hw0 hw0'
 go_loopw [10] (fun i wr=>i=.int .i64 0∧Hid (Bw w wr)∧Hid (Blk wr w.heap.size 185 zer)) (fun _ _=>0)
 case atStart=>exact⟨rfl,L0,B0⟩
 case round=>
  obtain⟨rfl,HL,HB⟩:=hrel
  have HS:=Hz (sector_any ((H.o.below HL.o).below ((Mb wr.heap.size wr).drew)) HP3.o (i:=0) (by omega))
  obtain⟨q,hq⟩:∃q,q=10*l.p+0:=⟨_,rfl⟩
  rw [←hq] at HS HRD
  have d0:=(HL.o.cell (p:=⟨a,0,none⟩) hal).trans c0
  have hal':a<wr.heap.size:=Mw hal HL.o.size
  clear hq c0 c1
  go_wp2_with fail
  go_region_held3 (fun w'=>w'.cell? ⟨a,0,none⟩=some (.pointer (some ⟨g,0,none⟩)))
   (first
    | go_keep
    | (rw [hb1.cell (by simpa using hal')];assumption))
   ((first
     | (have hq:=HB1;clear hq;go_at_call 18;refine (HRD.o _ HB1.o).mono ?_;rintro e w2 ⟨rfl,rfl⟩)
     | (go_at_call 148;refine HS.o.mono ?_;rintro e w1 ⟨rfl,hb1⟩;have HB1:=Hz (show Bw w w1 from HL.o.trans ((((Mb wr.heap.size wr).drew).trans hb1).mono HL.o.size));have HX1:=Hz (HB.o.below (((Mb wr.heap.size wr).drew).trans hb1)))))
  have LX:=Hz HB1.o
  have BX:=Hz HX1.o
  go_wp2_with (refine Qq rfl 185 (.tmp 2) (.tmp 26) rfl w.heap.size rfl zer rfl BX.o rfl Yu one_zer ?_;intro w5 hB5 ho5)
  have e0:=hB5.o.cell (i:=0) rfl
  have e1:=hB5.o.cell (i:=1) rfl
  have e2:=hB5.o.cell (i:=2) rfl
  have e3:=hB5.o.cell (i:=3) rfl
  have e4:=hB5.o.cell (i:=4) rfl
  have e5:=hB5.o.cell (i:=5) rfl
  have e6:=hB5.o.cell (i:=6) rfl
  have e7:=hB5.o.cell (i:=7) rfl
  have e8:=hB5.o.cell (i:=8) rfl
  have e9:=hB5.o.cell (i:=9) rfl
  have ea:=hB5.o.cell (i:=10) rfl
  have eb:=hB5.o.cell (i:=11) rfl
  refine bodyPost_ret (v:=.tuple #[.agg #[.int .i64 0,.int .i64 0,.int .i64 0,.int .i64 0,.int .i64 0,.int .i64 0,.int .i64 0,.int .i64 0,.int .i64 0,.int .i64 0,.int .i64 0,.int .i64 0],.int .i64 8]) (by simp [results,Tryz.results116,go_sem,Rc.none,e0,e1,e2,e3,e4,e5,e6,e7,e8,e9,ea,eb]) rfl ?_
  exact⟨rfl,ho5.o.below LX.o (Mr _) LX.o.size⟩
end
theorem qvu (F:Nat→Prop) (g:Nat) (s:St) (p:Nat) (w:World) (hD:Dk w F g s) (hp:p≤3) (hf:10*p+2≤s.S.length) (hd:s.down=true) :
 Calls Tryz.prog 70 #[.pointer (some ⟨g,0,none⟩),.int .i64 (p:Nat)] w fun e w'=>e=.returned (.tuple #[.pointer none,.int .i64 8])∧Bw w w':=by
 have H1:=Hz (logOf_any F g s p w hD hp hf)
 have H2:=Hz (fun (w':World) a (hb':Bw w w') (h:Lm w' (fun i=>i=a) a g ⟨p,Rc.none,0⟩)=>qvt (hD.below hb') h hp hf hd)
 clear hD hp hf hd
 go_enter Tryz.func70,Tryz.ntmps70
 go_wp2_with (first
  | (go_at_call 115;refine H1.o.mono ?_;rintro e w1 ⟨a,rfl,ha,hlm,hb1⟩;have L1:=Hz hb1;have HM1:=Hz hlm;clear hb1 ha hlm)
  | (go_at_call 116;refine (H2.o w1 a L1.o HM1.o).mono ?_;rintro e w2 ⟨rfl,hb2⟩;have L2:=Hz (L1.o.trans (hb2.mono L1.o.size));clear hb2))
 go_ret2
 exact⟨rfl,L2.o.alloc L2.o.size _⟩
end CmtN
namespace StoN
open Kit Byt Mem DskA DskC DskE RecM StgM
open RecA (rval rcells rok sval scells sok)
open StgN (Sm DS Sgo)
open CmtN (Lm LS Lgo)
open TabA (Tri Tris Ta)
open RecN (Puts)
theorem sseq (s z h:Int) (w:World):(Op.equalIn 10000 103 (.agg #[.int .i64 s,.int .i64 z,.int .i64 h]) (.agg #[.int .i64 s,.int .i64 z,.int .i64 h])).run Tryz.prog w=.ok true w:=by
 have ht:Tryz.prog.underlying 103=some (.struct (Tryz.prog.fieldsOf 103)):=by kernel_rfl
 have hp:Tryz.prog.stoodInHeld 103=false:=by kernel_rfl
 rw [show (10000:Nat)=9999+1 from rfl,run_equalIn_struct w 9999 _ _ _ ht hp]
 simp [go_sem,Op.eqFields,Tryz.underlying103,Tryz.underlying3]
theorem Hg {w:World} {F:Nat→Prop} {g:Nat} {s:St} (hD:Dk w F g s) (hd:s.down=true) (la s0 s1:Nat) (A:Option Addr) (c:Nat) (b n d:Nat) (q:Int) (hq:inB s q=true) (h0:w.cell? ⟨b,0,none⟩=some (.int .i64 q)) (hbl:b<w.heap.size) (hn:0<n) (hn2:n≤2) :
 Calls Tryz.prog 84 #[pval g la s0 s1,.slice A 64 c,.slice (some ⟨b,0,none⟩) n d] w fun e w'=>e=.returned (.int .i64 8)∧∃F',Dk w' F' g s∧Keep F w w'∧(∀i,F' i→F i∨w.heap.size≤i):=by
 have hs:spend s=(false,s):=Xk hd
 have HW:=Hz (fun w' (hb:Bw w w')=>(show Calls Tryz.prog 19 #[.pointer (some ⟨g,0,none⟩),.int .i64 q,.slice A 64 c] w' (Got F g w' (.int .i64 8) s) from by have:=write_down F g s q A c w' (hD.below hb) hq (by rw [hs]);rw [hs] at this;exact this))
 have hnz:(0:Int)<n:=by omega
 have HL0:=Hz (show Bw w (w.alloc (.cells (pcs g la s0 s1).toArray 80)) from (Mb _ _).alloc (Mr _) _)
 have HB0:=Hz (Blk.new w 80 (pcs g la s0 s1))
 clear hD hd hq hs
 go_enter Tryz.func84,Tryz.ntmps84
 go_wp2
 obtain⟨w0,hw0⟩:∃w0,w0=w.alloc (.cells (pcs g la s0 s1).toArray 80):=⟨_,rfl⟩
 rw [←hw0] at HL0 HB0
 have hw0':w.alloc (.cells #[.pointer (some ⟨la,0,none⟩),.pointer (some ⟨s0,0,none⟩),.pointer (some ⟨s1,0,none⟩),.pointer (some ⟨g,0,none⟩)] 80)=w0:=hw0.symm
 rw [hw0']
 clear hw0 hw0'
 go_loopw [12] (fun i wr=>i=.int .i64 0∧wr=w0) (fun _ _=>0)
 case atStart=>exact⟨rfl,rfl⟩
 case round=>
  obtain⟨rfl,rfl⟩:=hrel
  have e0:=(HL0.o.cell (p:=⟨b,0,none⟩) hbl).trans h0
  have hbl':=Mw hbl HL0.o.size
  have c3:=HB0.o.cell (i:=3) rfl
  clear h0
  go_wp2_with (go_at_call 19;refine (HW.o _ HL0.o).mono ?_;rintro e w2 ⟨rfl,F2,hD2,hk2,hf2⟩;have HD2:=Hz hD2;have HK2:=Hz hk2;have HF2:=Hz hf2;clear hD2 hk2 hf2)
  go_ret
  refine⟨rfl,F2,HD2.o,(Keep.of_below (F:=F) HL0.o).trans HK2.o fun i hi=>.inl hi,fun i hi=>(HF2.o i hi).imp id fun h=>Ml HL0.o.size h⟩
section
variable {w:World} {F:Nat→Prop} {g:Nat} {s:St}
theorem Xu (la s0 s1:Nat) (r0 r1 r2 r3 r4 r5:Int) (h1:∀w',Bw w w'→Calls Tryz.prog 32 #[.pointer (some ⟨la,0,none⟩)] w' fun e w''=>e=.returned (.agg #[.int .i64 r0,.int .i64 r1,.int .i64 r2,.int .i64 r3,.int .i64 r4,.int .i64 r5])∧Bw w' w'')
 (h2:∀w',Bw w w'→Calls Tryz.prog 70 #[.pointer (some ⟨g,0,none⟩),.int .i64 r0] w' fun e w''=>∃x,e=.returned (.tuple #[.pointer (some ⟨x,0,none⟩),.int .i64 0])∧Bw w' w''∧
   ∀w3,Bw w'' w3→Calls Tryz.prog 32 #[.pointer (some ⟨x,0,none⟩)] w3 fun e w4=>e=.returned (.agg #[.int .i64 r0,.int .i64 r1,.int .i64 r2,.int .i64 r3,.int .i64 r4,.int .i64 r5])∧Bw w3 w4) :
 Calls Tryz.prog 48 #[pval g la s0 s1] w fun e w'=>e=.returned (.int .i64 0)∧Bw w w':=by
 have H1:=Hz h1
 have H2:=Hz h2
 have L0:=Hz (show Bw w (w.alloc (.cells (pcs g la s0 s1).toArray 80)) from (Mb _ _).alloc (Mr _) _)
 have X0:=Hz (Blk.new w 80 (pcs g la s0 s1))
 have hE:=fun w:World=>(CmtC.req ⟨r0,r1,r2,r3,r4,r5⟩ ⟨r0,r1,r2,r3,r4,r5⟩ true ⟨fun _=>rfl,fun _=>rfl⟩ w:(Op.equalIn 10000 66 (.agg #[.int .i64 r0,.int .i64 r1,.int .i64 r2,.int .i64 r3,.int .i64 r4,.int .i64 r5]) (.agg #[.int .i64 r0,.int .i64 r1,.int .i64 r2,.int .i64 r3,.int .i64 r4,.int .i64 r5])).run Tryz.prog w=.ok true w)
 clear h1 h2
 go_enter Tryz.func48,Tryz.ntmps48
 go_wp2_with (first
  | (go_at_call 32;refine (H1.o _ L0.o).mono ?_;rintro e w1 ⟨rfl,hb1⟩;have L1:=Hz (L0.o.trans (hb1.mono L0.o.size));have L2:=Hz (L1.o.alloc L1.o.size (.cells #[.int .i64 r0,.int .i64 r1,.int .i64 r2,.int .i64 r3,.int .i64 r4,.int .i64 r5] 66));have X2:=Hz ((X0.o.below hb1).alloc (.cells #[.int .i64 r0,.int .i64 r1,.int .i64 r2,.int .i64 r3,.int .i64 r4,.int .i64 r5] 66));have R2:=Hz (Blk.new w1 66 [.int .i64 r0,.int .i64 r1,.int .i64 r2,.int .i64 r3,.int .i64 r4,.int .i64 r5]);have d3:=X2.o.cell (i:=3) rfl;clear hb1)
  | (go_at_call 70;refine (H2.o _ L2.o).mono ?_;rintro e w3 ⟨x,rfl,hb3,hl3⟩;have L3:=Hz (L2.o.trans (hb3.mono L2.o.size));have R3:=Hz (R2.o.below hb3);have HL3:=Hz hl3;clear hb3 hl3))
 obtain⟨xr,hxr⟩:∃xr,xr=w1.heap.size:=⟨_,rfl⟩
 rw [←hxr] at R3 ⊢
 have k0:=R3.o.cell (i:=0) rfl
 have k1:=R3.o.cell (i:=1) rfl
 have k2:=R3.o.cell (i:=2) rfl
 have k3:=R3.o.cell (i:=3) rfl
 have k4:=R3.o.cell (i:=4) rfl
 have k5:=R3.o.cell (i:=5) rfl
 have hrl:=R3.o.lt
 clear d3 hxr
 go_region_held3 (fun w'=>w'.cell? ⟨xr,0,none⟩=some (.int .i64 r0)∧w'.cell? ⟨xr,1,none⟩=some (.int .i64 r1)∧w'.cell? ⟨xr,2,none⟩=some (.int .i64 r2)∧w'.cell? ⟨xr,3,none⟩=some (.int .i64 r3)∧w'.cell? ⟨xr,4,none⟩=some (.int .i64 r4)∧w'.cell? ⟨xr,5,none⟩=some (.int .i64 r5))
  (first
   | go_keep
   | (go_split_ands;refine⟨?_,?_,?_,?_,?_,?_⟩ <;> (rw [hb4.cell (by simpa using hrl)];assumption)))
  ((go_at_call 32;refine (HL3.o _ ((Mb w3.heap.size w3).drew)).mono ?_;rintro e w4 ⟨rfl,hb4⟩;have L4:=Hz (L3.o.trans ((((Mb w3.heap.size w3).drew).trans hb4).mono L3.o.size))))
 go_wp2
 go_ret
 exact⟨rfl,L4.o⟩
theorem holdRecord_dn (hD:Dk w F g s) (hd:s.down=true) (la s0 s1 p:Nat) (hp:p≤3) (hf:10*p+2≤s.S.length) (r1 r2 r3 r4 r5:Int) (hr:(⟨(p:Nat),r1,r2,r3,r4,r5⟩:Rc).right) (hk:rok ⟨(p:Nat),r1,r2,r3,r4,r5⟩)
 (h1:∀w',Bw w w'→Calls Tryz.prog 32 #[.pointer (some ⟨la,0,none⟩)] w' fun e w''=>e=.returned (.agg #[.int .i64 (p:Nat),.int .i64 r1,.int .i64 r2,.int .i64 r3,.int .i64 r4,.int .i64 r5])∧Bw w' w'') :
 Calls Tryz.prog 48 #[pval g la s0 s1] w fun e w'=>e=.returned (.int .i64 8)∧∃F',Dk w' F' g s∧Keep F w w'∧(∀i,F' i→F i∨w.heap.size≤i):=by
 have H1:=Hz h1
 have H2:=Hz (fun w' (hb:Bw w w')=>CmtN.qvu F g s p w' (hD.below hb) hp hf hd)
 have H3:=Hz (fun w'=>(show Calls Tryz.prog 32 #[.pointer none] w' fun e w''=>e=.returned (.agg #[.int .i64 0,.int .i64 0,.int .i64 0,.int .i64 0,.int .i64 0,.int .i64 0])∧Bw w' w'' from CmtN.qjk w'))
 have H4:=Hz (fun w'=>RecN.qqo ⟨(p:Nat),r1,r2,r3,r4,r5⟩ w' hk hr)
 have hl64:(shut (⟨(p:Nat),r1,r2,r3,r4,r5⟩:Rc).bytes).length=64:=J5 (by rw [Rc.bytes_len];omega)
 obtain⟨bs,hbs⟩:∃bs,bs=shut (⟨(p:Nat),r1,r2,r3,r4,r5⟩:Rc).bytes:=⟨_,rfl⟩
 rw [←hbs] at H4 hl64
 have HL64:=Hz hl64
 have H5:=Hz (fun w'=>CmtN.Ux (p:=p) (k:=0) hp (by omega) w')
 have H6:=Hz (fun w'=>CmtN.Ux (p:=p) (k:=1) hp (by omega) w')
 have HIN:=Hz (show inB s ((10*p+0:Nat):Int)=true from by simp [inB];omega)
 have HW:=Hz (fun (w':World) (hb:Bw w w') A c b n d q hq h0 hbl hn hn2=>Hg (hD.below hb) hd la s0 s1 A c b n d q hq h0 hbl hn hn2)
 obtain⟨q0,hq0⟩:∃q,q=10*p+0:=⟨_,rfl⟩
 obtain⟨q1,hq1⟩:∃q,q=10*p+1:=⟨_,rfl⟩
 rw [←hq0] at H5 HIN
 rw [←hq1] at H6
 have hE:∀w:World,(Op.equalIn 10000 66 (.agg #[.int .i64 0,.int .i64 0,.int .i64 0,.int .i64 0,.int .i64 0,.int .i64 0]) (.agg #[.int .i64 (p:Nat),.int .i64 r1,.int .i64 r2,.int .i64 r3,.int .i64 r4,.int .i64 r5])).run Tryz.prog w=.ok false w:=fun w=>CmtC.req Rc.none ⟨(p:Nat),r1,r2,r3,r4,r5⟩ false (by
  refine⟨fun h=>(by cases h),fun h=>?_⟩
  have h8:=hr
  rw [←h] at h8
  have:=h8.1.2.1
  exact absurd this.1 (by show ¬(1:Int)≤0;omega)) w
 have L0:=Hz (show Bw w (w.alloc (.cells (pcs g la s0 s1).toArray 80)) from (Mb _ _).alloc (Mr _) _)
 have X0:=Hz (Blk.new w 80 (pcs g la s0 s1))
 clear h1 hbs hl64 hD hd hp hf hr hk hq0 hq1
 go_enter Tryz.func48,Tryz.ntmps48
 go_wp2_with (first
  | (go_at_call 32;refine (H1.o _ L0.o).mono ?_;rintro e w1 ⟨rfl,hb1⟩;have L1:=Hz (L0.o.trans (hb1.mono L0.o.size));have L2:=Hz (L1.o.alloc L1.o.size (.cells #[.int .i64 (p:Nat),.int .i64 r1,.int .i64 r2,.int .i64 r3,.int .i64 r4,.int .i64 r5] 66));have X2:=Hz ((X0.o.below hb1).alloc (.cells #[.int .i64 (p:Nat),.int .i64 r1,.int .i64 r2,.int .i64 r3,.int .i64 r4,.int .i64 r5] 66));have R2:=Hz (Blk.new w1 66 [.int .i64 (p:Nat),.int .i64 r1,.int .i64 r2,.int .i64 r3,.int .i64 r4,.int .i64 r5]);have d3:=X2.o.cell (i:=3) rfl;clear hb1)
  | (go_at_call 70;refine (H2.o _ L2.o).mono ?_;rintro e w3 ⟨rfl,hb3⟩;have L3:=Hz (L2.o.trans (hb3.mono L2.o.size));have R3:=Hz (R2.o.below hb3);have X3:=Hz (X2.o.below hb3);clear hb3))
 obtain⟨xr,hxr⟩:∃xr,xr=w1.heap.size:=⟨_,rfl⟩
 rw [←hxr] at R3 ⊢
 have k0:=R3.o.cell (i:=0) rfl
 have k1:=R3.o.cell (i:=1) rfl
 have k2:=R3.o.cell (i:=2) rfl
 have k3:=R3.o.cell (i:=3) rfl
 have k4:=R3.o.cell (i:=4) rfl
 have k5:=R3.o.cell (i:=5) rfl
 have hrl:=R3.o.lt
 clear d3 hxr
 go_region_held3 (fun w'=>w'.cell? ⟨xr,0,none⟩=some (.int .i64 (p:Nat))∧w'.cell? ⟨xr,1,none⟩=some (.int .i64 r1)∧w'.cell? ⟨xr,2,none⟩=some (.int .i64 r2)∧w'.cell? ⟨xr,3,none⟩=some (.int .i64 r3)∧w'.cell? ⟨xr,4,none⟩=some (.int .i64 r4)∧w'.cell? ⟨xr,5,none⟩=some (.int .i64 r5))
  (first
   | go_keep
   | (go_split_ands;refine⟨?_,?_,?_,?_,?_,?_⟩ <;> (rw [hb4.cell (by simpa using hrl)];assumption)))
  ((go_at_call 32;refine (H3.o _).mono ?_;rintro e w4 ⟨rfl,hb4⟩;have L4:=Hz (L3.o.trans ((((Mb w3.heap.size w3).drew).trans hb4).mono L3.o.size));have R4:=Hz (R3.o.below (((Mb w3.heap.size w3).drew).trans hb4));have X4:=Hz (X3.o.below (((Mb w3.heap.size w3).drew).trans hb4))))
 have L4c:=Hz L4.o
 have R4c:=Hz R4.o
 have X4c:=Hz X4.o
 clear hb4 k0 k1 k2 k3 k4 k5 hrl
 have m0:=R4c.o.cell (i:=0) rfl
 have m1:=R4c.o.cell (i:=1) rfl
 have m2:=R4c.o.cell (i:=2) rfl
 have m3:=R4c.o.cell (i:=3) rfl
 have m4:=R4c.o.cell (i:=4) rfl
 have m5:=R4c.o.cell (i:=5) rfl
 go_wp2_with fail
 refine (H4.o _).mono ?_
 rintro e w5 ⟨B,m,d,rfl,hown,hb5⟩
 obtain rfl:64=m:=by have h9:=Rd.nats (Rd.own hown);have:=HL64.o;omega
 have L5:=Hz (L4c.o.trans (hb5.mono L4c.o.size))
 have R5:=Hz (R4c.o.below hb5)
 have X5:=Hz (X4c.o.below hb5)
 have n0:=R5.o.cell (i:=0) rfl
 clear hb5 hown m0 m1 m2 m3 m4 m5
 go_wp2_with fail
 refine (H5.o _).mono ?_
 rintro e w6 ⟨rfl,hb6⟩
 have L6:=Hz (L5.o.trans (hb6.mono L5.o.size))
 have R6:=Hz (R5.o.below hb6)
 have X6:=Hz (X5.o.below hb6)
 have n1:=R6.o.cell (i:=0) rfl
 clear hb6 n0
 go_wp2_with fail
 refine (H6.o _).mono ?_
 rintro e w7 ⟨rfl,hb7⟩
 have L7:=Hz (L6.o.trans (hb7.mono L6.o.size))
 have X7:=Hz (X6.o.below hb7)
 have y0:=X7.o.cell (i:=0) rfl
 have y1:=X7.o.cell (i:=1) rfl
 have y2:=X7.o.cell (i:=2) rfl
 have y3:=X7.o.cell (i:=3) rfl
 clear hb7 n1
 have L8:=Hz (L7.o.alloc L7.o.size (.cells #[.int .i64 (q0:Nat),.int .i64 (q1:Nat)] 3))
 have B8:=Hz (Blk.new w7 3 [.int .i64 (q0:Nat),.int .i64 (q1:Nat)])
 go_wp2_with fail
 refine (HW.o _ L8.o _ _ w7.heap.size 2 2 (q0:Nat) HIN.o (B8.o.cell (i:=0) rfl) B8.o.lt (by omega) (by omega)).mono ?_
 rintro e w9 ⟨rfl,F9,hD9,hk9,hf9⟩
 go_wp2
 go_ret
 exact⟨rfl,F9,hD9,(Keep.of_below (F:=F) L8.o).trans hk9 fun i hi=>.inl hi,fun i hi=>(hf9 i hi).imp id fun h=>Ml L8.o.size h⟩
end
section
variable {w:World} {g:Nat}
theorem Xx (la s0 s1 k a:Nat) (hk:k=0∧a=s0∨k=1∧a=s1) (p r1 r2 r3 r4 r5 gs gz gh:Int) (has has2:Bool) (h1:∀w',Bw w w'→Calls Tryz.prog 32 #[.pointer (some ⟨la,0,none⟩)] w' fun e w''=>e=.returned (.agg #[.int .i64 p,.int .i64 r1,.int .i64 r2,.int .i64 r3,.int .i64 r4,.int .i64 r5])∧Bw w' w'')
 (h2:∀w',Bw w w'→Calls Tryz.prog 76 #[.pointer (some ⟨a,0,none⟩)] w' fun e w''=>e=.returned (.tuple #[.agg #[.int .i64 gs,.int .i64 gz,.int .i64 gh],.bool has])∧Bw w' w'')
 (h3:∀w',Bw w w'→Calls Tryz.prog 64 #[.pointer (some ⟨g,0,none⟩),.int .i64 p,.int .i64 (k:Nat)] w' fun e w''=>∃x,e=.returned (.tuple #[.pointer (some ⟨x,0,none⟩),.int .i64 0])∧Bw w' w''∧
   ∀w3,Bw w'' w3→Calls Tryz.prog 76 #[.pointer (some ⟨x,0,none⟩)] w3 fun e w4=>e=.returned (.tuple #[.agg #[.int .i64 gs,.int .i64 gz,.int .i64 gh],.bool has2])∧Bw w3 w4) :
 Calls Tryz.prog 56 #[pval g la s0 s1,.int .i64 (k:Nat)] w fun e w'=>e=.returned (.int .i64 0)∧Bw w w':=by
 have H1:=Hz h1
 have H2:=Hz h2
 have H3:=Hz h3
 have L0:=Hz (show Bw w (w.alloc (.cells (pcs g la s0 s1).toArray 80)) from (Mb _ _).alloc (Mr _) _)
 have X0:=Hz (Blk.new w 80 (pcs g la s0 s1))
 have HSEL:=Hz (show (pcs g la s0 s1)[1+k]?=some (.pointer (some ⟨a,0,none⟩)) from by rcases hk with⟨rfl,rfl⟩|⟨rfl,rfl⟩ <;> rfl)
 have hk2:k<2:=by omega
 have hE:=fun w:World=>sseq gs gz gh w
 have hfl:=fun w=>(rfield p r1 r2 r3 r4 r5 w).1
 clear h1 h2 h3 hk
 go_enter Tryz.func56,Tryz.ntmps56
 go_wp2_with fail
 refine (H1.o _ L0.o).mono ?_
 rintro e w1 ⟨rfl,hb1⟩
 have L1:=Hz (L0.o.trans (hb1.mono L0.o.size))
 have X1:=Hz (X0.o.below hb1)
 have d1:=X1.o.cell HSEL.o
 clear hb1
 go_wp2_with fail
 refine (H2.o _ L1.o).mono ?_
 rintro e w2 ⟨rfl,hb2⟩
 have L2:=Hz (L1.o.trans (hb2.mono L1.o.size))
 have L3:=Hz (L2.o.alloc L2.o.size (.cells #[.int .i64 gs,.int .i64 gz,.int .i64 gh] 103))
 have X3:=Hz ((X1.o.below hb2).alloc (.cells #[.int .i64 gs,.int .i64 gz,.int .i64 gh] 103))
 have d3:=X3.o.cell (i:=3) rfl
 have S3:=Hz (Blk.new w2 103 [.int .i64 gs,.int .i64 gz,.int .i64 gh])
 clear hb2 d1
 go_wp2_with fail
 refine (H3.o _ L3.o).mono ?_
 rintro e w4 ⟨x,rfl,hb4,hx4⟩
 have L4:=Hz (L3.o.trans (hb4.mono L3.o.size))
 have S4:=Hz (S3.o.below hb4)
 have HX4:=Hz hx4
 clear hb4 hx4 d3
 go_wp2_with fail
 refine (HX4.o _ (Mb _ _)).mono ?_
 rintro e w5 ⟨rfl,hb5⟩
 have L5:=Hz (L4.o.trans (hb5.mono L4.o.size))
 have L6:=Hz (L5.o.alloc L5.o.size (.cells #[.int .i64 gs,.int .i64 gz,.int .i64 gh] 103))
 have S6:=Hz ((S4.o.below hb5).alloc (.cells #[.int .i64 gs,.int .i64 gz,.int .i64 gh] 103))
 have k0:=S6.o.cell (i:=0) rfl
 have k1:=S6.o.cell (i:=1) rfl
 have k2:=S6.o.cell (i:=2) rfl
 clear hb5
 go_wp2
 go_ret
 exact⟨rfl,L6.o⟩
end
end StoN
namespace StoN
open Mem
section
variable {w:World} {R:World→Prop} {d la s0 s1 y:Nat} {x:Int}
def Un (w:World) (zv:Value) (q:Int) (Q:World→Ending→World→Prop):Prop:=∀w',Bw w w'→Calls Tryz.prog 46 #[zv,.int .i64 q] w' (Q w')
def Sd (w:World) (zv:Value) (q ses:Int) (Q:World→Ending→World→Prop):Prop:=∀w',Bw w w'→Calls Tryz.prog 53 #[zv,.int .i64 q,.int .i64 ses] w' (Q w')
def Hr (w:World) (d la s0 s1:Nat) (Q:World→Ending→World→Prop):Prop:=∀w',Bw w w'→Calls Tryz.prog 48 #[pval d la s0 s1] w' (Q w')
def Ldd (w:World) (d la s0 s1 y:Nat):Prop:=∀w',Bw w w'→Calls Tryz.prog 49 #[pval d la s0 s1] w' fun e w''=>e=.returned (.pointer (some ⟨y,0,none⟩))∧Bw w' w''
def An (x:Int) (R:World→Prop) (e:Ending) (w':World):Prop:=e=.returned (.int .i64 x)∧R w'
def Zr (w:World) (e:Ending) (w':World):Prop:=e=.returned (.int .i64 0)∧Bw w w'
theorem begin_no (zv:Value) (q ses z:Int) (hx:x≠0) (h:Un w zv q (fun w'=>No w' x)):Calls Tryz.prog 21 #[zv,.int .i64 q,.int .i64 ses,.int .i64 z] w (An x (Bw w)):=by
 have HU:=Hz (h w (Mb _ _))
 clear h
 go_enter Tryz.func21,Tryz.ntmps21
 go_wp2_with (go_at_call 46;refine HU.o.mono ?_;rintro e w1 ⟨rfl,hb1⟩;have L1:=Hz hb1;clear hb1)
 go_ret
 exact⟨rfl,L1.o.alloc L1.o.size _⟩
theorem begin_3 (zv:Value) (q ses z:Int) (h:Un w zv q (fun w'=>Is w' d la s0 s1)) (h2:∀w',Bw w w'→Calls Tryz.prog 47 #[.agg #[.int .i64 ses,.int .i64 z,.int .i64 0]] w' fun e w''=>e=.returned (.bool false)∧Bw w' w'') :
 Calls Tryz.prog 21 #[zv,.int .i64 q,.int .i64 ses,.int .i64 z] w (An 3 (Bw w)):=by
 have HU:=Hz (h w (Mb _ _))
 have H2:=Hz h2
 clear h h2
 go_enter Tryz.func21,Tryz.ntmps21
 go_wp2_with (first
  | (go_at_call 46;refine HU.o.mono ?_;rintro e w1 ⟨rfl,hb1⟩;have L1:=Hz (hb1.alloc hb1.size (.cells (pcs d la s0 s1).toArray 80));clear hb1)
  | (go_at_call 47;refine (H2.o _ L1.o).mono ?_;rintro e w2 ⟨rfl,hb2⟩;have L2:=Hz (L1.o.trans (hb2.mono L1.o.size));clear hb2))
 go_ret
 exact⟨rfl,L2.o⟩
theorem begin_8 (zv:Value) (q ses z:Int) (hx:x≠0) (h:Un w zv q (fun w'=>Is w' d la s0 s1)) (h2:∀w',Bw w w'→Calls Tryz.prog 47 #[.agg #[.int .i64 ses,.int .i64 z,.int .i64 0]] w' fun e w''=>e=.returned (.bool true)∧Bw w' w'')
 (h3:Hr w d la s0 s1 (fun _=>An x R)) :
 Calls Tryz.prog 21 #[zv,.int .i64 q,.int .i64 ses,.int .i64 z] w (An x R):=by
 have HU:=Hz (h w (Mb _ _))
 have H2:=Hz h2
 have H3:=Hz h3
 clear h h2 h3
 go_enter Tryz.func21,Tryz.ntmps21
 go_wp2_with (first
  | (go_at_call 46;refine HU.o.mono ?_;rintro e w1 ⟨rfl,hb1⟩;have L1:=Hz (hb1.alloc hb1.size (.cells (pcs d la s0 s1).toArray 80));have X1:=Hz (Blk.new w1 80 (pcs d la s0 s1));clear hb1)
  | (go_at_call 47;refine (H2.o _ L1.o).mono ?_;rintro e w2 ⟨rfl,hb2⟩;have L2:=Hz (L1.o.trans (hb2.mono L1.o.size));have X2:=Hz (X1.o.below hb2);clear hb2)
  | (refine Qj rfl 80 (.tmp 9) rfl w1.heap.size rfl X2.o Tryz.underlying80 rfl Qy ?_)
  | (go_at_call 48;refine (H3.o _ L2.o).mono ?_;rintro e w3 ⟨rfl,hr3⟩;have HR3:=Hz hr3;clear hr3))
 go_ret
 exact⟨rfl,HR3.o⟩
theorem qww (zv:Value) (q ses z:Int) (h:Un w zv q (fun w'=>Is w' d la s0 s1)) (h2:∀w',Bw w w'→Calls Tryz.prog 47 #[.agg #[.int .i64 ses,.int .i64 z,.int .i64 0]] w' fun e w''=>e=.returned (.bool true)∧Bw w' w'')
 (h3:Hr w d la s0 s1 Zr) (h4:Ldd w d la s0 s1 y) (h5:∀w',Bw w w'→Calls Tryz.prog 50 #[.pointer (some ⟨y,0,none⟩),.int .i64 ses,.int .i64 z] w' (An x R)) :
 Calls Tryz.prog 21 #[zv,.int .i64 q,.int .i64 ses,.int .i64 z] w (An x R):=by
 have HU:=Hz (h w (Mb _ _))
 have H2:=Hz h2
 have H3:=Hz h3
 have H4:=Hz h4
 have H5:=Hz h5
 clear h h2 h3 h4 h5
 go_enter Tryz.func21,Tryz.ntmps21
 go_wp2_with (first
  | (go_at_call 46;refine HU.o.mono ?_;rintro e w1 ⟨rfl,hb1⟩;have L1:=Hz (hb1.alloc hb1.size (.cells (pcs d la s0 s1).toArray 80));have X1:=Hz (Blk.new w1 80 (pcs d la s0 s1));clear hb1)
  | (go_at_call 47;refine (H2.o _ L1.o).mono ?_;rintro e w2 ⟨rfl,hb2⟩;have L2:=Hz (L1.o.trans (hb2.mono L1.o.size));have X2:=Hz (X1.o.below hb2);clear hb2)
  | (have hq:=L3;clear hq;refine Qj rfl 80 (.tmp 9) rfl w1.heap.size rfl X3.o Tryz.underlying80 rfl Qy ?_)
  | (refine Qj rfl 80 (.tmp 9) rfl w1.heap.size rfl X2.o Tryz.underlying80 rfl Qy ?_)
  | (go_at_call 48;refine (H3.o _ L2.o).mono ?_;rintro e w3 ⟨rfl,hb3⟩;have L3:=Hz (L2.o.trans (hb3.mono L2.o.size));have X3:=Hz (X2.o.below hb3);clear hb3)
  | (go_at_call 49;refine (H4.o _ L3.o).mono ?_;rintro e w4 ⟨rfl,hb4⟩;have L4:=Hz (L3.o.trans (hb4.mono L3.o.size));clear hb4)
  | (go_at_call 50;refine (H5.o _ L4.o).mono ?_;rintro e w5 ⟨rfl,hr5⟩;have HR5:=Hz hr5;clear hr5))
 go_ret
 exact⟨rfl,HR5.o⟩
theorem put_no (zv:Value) (q ses no:Int) (A:Option Addr) (m c:Nat) (hx:x≠0) (h:Un w zv q (fun w'=>No w' x)):Calls Tryz.prog 22 #[zv,.int .i64 q,.int .i64 ses,.int .i64 no,.slice A m c] w (An x (Bw w)):=by
 have HU:=Hz (h w (Mb _ _))
 clear h
 go_enter Tryz.func22,Tryz.ntmps22
 go_wp2_with (go_at_call 46;refine HU.o.mono ?_;rintro e w1 ⟨rfl,hb1⟩;have L1:=Hz hb1;clear hb1)
 go_ret
 exact⟨rfl,L1.o.alloc L1.o.size _⟩
theorem put_go (zv:Value) (q ses no:Int) (A:Option Addr) (m c:Nat) (h:Un w zv q (fun w'=>Is w' d la s0 s1)) (h4:Ldd w d la s0 s1 y)
 (h5:∀w',Bw w w'→Calls Tryz.prog 51 #[.pointer (some ⟨y,0,none⟩),.int .i64 ses,.int .i64 no,.slice A m c] w' (An x R)) :
 Calls Tryz.prog 22 #[zv,.int .i64 q,.int .i64 ses,.int .i64 no,.slice A m c] w (An x R):=by
 have HU:=Hz (h w (Mb _ _))
 have H4:=Hz h4
 have H5:=Hz h5
 clear h h4 h5
 go_enter Tryz.func22,Tryz.ntmps22
 go_wp2_with (first
  | (go_at_call 46;refine HU.o.mono ?_;rintro e w1 ⟨rfl,hb1⟩;have L1:=Hz (hb1.alloc hb1.size (.cells (pcs d la s0 s1).toArray 80));clear hb1)
  | (go_at_call 49;refine (H4.o _ L1.o).mono ?_;rintro e w4 ⟨rfl,hb4⟩;have L4:=Hz (L1.o.trans (hb4.mono L1.o.size));clear hb4)
  | (go_at_call 51;refine (H5.o _ L4.o).mono ?_;rintro e w5 ⟨rfl,hr5⟩;have HR5:=Hz hr5;clear hr5))
 go_ret
 exact⟨rfl,HR5.o⟩
end
end StoN
end Go.Proofs.YtpidbddllnidhaaGreatDoor
