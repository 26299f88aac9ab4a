/- The parts that this claim uses of: CmtN3 · CmtN4 · CmtN · StoW · StoN0 · ImgU · Fld · StoN1. Conditions: those that each law names. -/
import Derived.Test.YtkepomnbhnnliaaGreatDoorK28
import Derived.Test.YtkepomnbhnnliaaGreatDoorK18
set_option maxRecDepth 100000
set_option maxHeartbeats 12800000
namespace Go.Proofs.YtkepomnbhnnliaaGreatDoor
namespace CmtN
open Go.RowKit Kit Byt Mem DskA DskC DskD DskE DskF RecM CmtM StgM
open RecA (rval rcells rok)
theorem size_two:(Tryz.prog.info? 216).map (·.size)=some 12:=by kernel_rfl
def zer:List Value:=rcells Rc.none++rcells Rc.none
def hcs (c d:Rc) (k:Nat):List Value:=if k=0 then zer else if k=1 then rcells c++rcells Rc.none else rcells c++rcells d
theorem one_two (c d:Rc):∀u ∈ rcells c++rcells d,u.oneCell'=true:=by
 intro u hu
 rcases List.mem_append.1 hu with h|h
 ·exact RecN.one_r c u h
 ·exact RecN.one_r d u h
theorem hcs_none {c d y:Rc} {k:Nat} (hk:k<2) (hc:k=0→y=c) (hd:k=1→y=d) (hy:y=Rc.none):hcs c d k=hcs c d (k+1):=by
 rcases (show k=0∨k=1 by omega) with rfl|rfl
 ·rw [show c=Rc.none from (hc rfl).symm.trans hy];rfl
 ·rw [show d=Rc.none from (hd rfl).symm.trans hy];rfl
theorem hcs_yes {c d y:Rc} {k:Nat} (hk:k<2) (hc:k=0→y=c) (hd:k=1→y=d):splice (hcs c d k) (6*k) (rcells y)=hcs c d (k+1):=by
 rcases (show k=0∨k=1 by omega) with rfl|rfl
 ·rw [show y=c from hc rfl];rfl
 ·rw [show y=d from hd rfl];rfl
theorem hcs_len (c d:Rc) (k:Nat):(hcs c d k).length=12:=by
 unfold hcs
 split
 ·rfl
 ·split <;> rfl
section
variable {w:World} {F J:Nat→Prop} {a g:Nat} {s:St} {l:Lg}
theorem held_any (hD:Dk w F g s) (h:Lm w J a g l) (hp:l.p≤3) (hf:10*l.p+2≤s.S.length) (hu:s.down=false) (hL:s.L.length≤1000000) (hb:∀i,byt (now s i)) :
 Calls Tryz.prog 152 #[.pointer (some ⟨a,0,none⟩)] w fun e w'=>e=.returned (.tuple #[.agg (rcells (cp l.p (now s (10*l.p)))++rcells (cp l.p (now s (10*l.p+1)))).toArray,.int .i64 0])∧Below w.heap.size w w':=by
 obtain⟨c0,c1,_,_⟩:=h.cells
 have hal:=h.blk.lt
 have H:=Hz h
 have HP3:=Hz hp
 have HRD:=Hz (fun k w' (hk:k≤1) (hb:Below w.heap.size w w')=>read_ok F g s (10*l.p+k) w' (hD.below hb) (by omega) hu (by omega))
 have HBY:=Hz hb
 obtain⟨p,hpp⟩:∃p,p=l.p:=⟨_,rfl⟩
 rw [←hpp] at c1 HRD ⊢
 have HPP:=Hz hpp
 clear hD h hp hf hu hL hb hpp
 obtain⟨x0,hx0⟩:∃x0,x0=now s (10*p):=⟨_,rfl⟩
 obtain⟨x1,hx1⟩:∃x1,x1=now s (10*p+1):=⟨_,rfl⟩
 rw [←hx0,←hx1]
 have HX:=Hz (And.intro hx0 hx1)
 clear hx0 hx1
 obtain⟨c,hc⟩:∃c,c=cp p x0:=⟨_,rfl⟩
 obtain⟨d,hd⟩:∃d,d=cp p x1:=⟨_,rfl⟩
 rw [←hc,←hd]
 have HCD:=Hz (And.intro hc hd)
 clear hc hd
 have L0:=Hz (show Below w.heap.size w ((w.alloc (.cells zer.toArray 216)).alloc (.cells zer.toArray 216)) from ((Below.refl _ _).alloc (Nat.le_refl _) _).alloc (by rw [World.size_alloc];omega) _)
 have B0:=Hz (show Blk ((w.alloc (.cells zer.toArray 216)).alloc (.cells zer.toArray 216)) w.heap.size 216 zer from (Blk.new w _ _).alloc _)
 have B1:=Hz (show Blk ((w.alloc (.cells zer.toArray 216)).alloc (.cells zer.toArray 216)) (w.heap.size+1) 216 zer from by have:=Blk.new (w.alloc (.cells zer.toArray 216)) 216 zer;rw [World.size_alloc] at this;exact this)
 go_enter Tryz.func152,Tryz.ntmps152
 go_wp2
 obtain⟨w0,hw0⟩:∃w0,w0=(w.alloc (.cells zer.toArray 216)).alloc (.cells zer.toArray 216):=⟨_,rfl⟩
 rw [←hw0] at L0 B0 B1
 have hw0':(w.alloc (.cells #[.int .i64 0,.int .i64 0,.int .i64 0,.int .i64 0,.int .i64 0,.int .i64 0,.int .i64 0,.int .i64 0,.int .i64 0,.int .i64 0,.int .i64 0,.int .i64 0] 216)).alloc (.cells #[.int .i64 0,.int .i64 0,.int .i64 0,.int .i64 0,.int .i64 0,.int .i64 0,.int .i64 0,.int .i64 0,.int .i64 0,.int .i64 0,.int .i64 0,.int .i64 0] 216)=w0:=hw0.symm
 rw [hw0']
 clear hw0 hw0'
 go_loopw [10] (fun i wr=>∃(k:Nat),k≤2∧i=.int .i64 k∧Hid (Below w.heap.size w wr)∧Hid (Blk wr w.heap.size 216 zer)∧Hid (Blk wr (w.heap.size+1) 216 (hcs c d k))) (fun i _=>2-(intOf i).toNat)
 case atStart=>exact⟨0,by omega,rfl,L0,B0,B1⟩
 case round=>
  obtain⟨k,hk,rfl,HL,HB,HC⟩:=hrel
  by_cases hlt:k<2
  ·have HS:=Hz (sector_any ((H.out.below HL.out).below ((Below.refl wr.heap.size wr).drew)) HP3.out (i:=k) (by omega))
   rw [←HPP.out] at HS
   obtain⟨xs,hxs⟩:∃xs,xs=now s (10*p+k):=⟨_,rfl⟩
   have HR:=Hz (fun w' hw=>HRD.out k w' (by omega) hw)
   rw [←hxs] at HR
   have HBX:=Hz (hxs▸HBY.out (10*p+k))
   obtain⟨q,hq⟩:∃q,q=10*p+k:=⟨_,rfl⟩
   rw [←hq] at HR HS
   have d0:=(HL.out.cell (p:=⟨a,0,none⟩) hal).trans c0
   have d1:=(HL.out.cell (p:=⟨a,1,none⟩) hal).trans c1
   have hal':a<wr.heap.size:=Nat.lt_of_lt_of_le hal HL.out.size
   have HXQ:=Hz (And.intro hxs hq)
   clear hxs hq c0 c1
   go_wp2_with fail
   go_region_held3 (fun w'=>w'.cell? ⟨a,0,none⟩=some (.pointer (some ⟨g,0,none⟩)))
    (first
     | go_keep
     | (rw [hb1.cell (by simpa using hal')];assumption)
     | (rw [hb2.cell (by simpa using hal1)];assumption))
    ((first
      | (have hq:=HB1;clear hq;go_at_call 35;refine (HR.out _ HB1.out).mono ?_;rintro e w2 ⟨A,rfl,hown,hb2⟩;have HB2:=Hz hb2;have HOW:=Hz hown;clear hown)
      | (go_at_call 185;refine HS.out.mono ?_;rintro e w1 ⟨rfl,hb1⟩;have HB1:=Hz (show Below w.heap.size w w1 from HL.out.trans ((((Below.refl wr.heap.size wr).drew).trans hb1).mono HL.out.size));have hal1:a<w1.heap.size:=Nat.lt_of_lt_of_le hal HB1.out.size)))
   have HG:=Hz (fun w' (h:Rd w' A 64 64 (u8n xs))=>RecN.rget_any A 64 64 xs w' h HBX.out)
   have HCP:=Hz (show cp (p:Int) xs=if (getR xs).2≠0∨(getR xs).1.p≠p then Rc.none else (getR xs).1 from rfl)
   obtain⟨G,hG⟩:∃G,G=(getR xs).1:=⟨_,rfl⟩
   obtain⟨x,hx⟩:∃x,x=(getR xs).2:=⟨_,rfl⟩
   rw [←hG,←hx] at HG HCP
   clear hG hx
   obtain⟨gp,gq,ga,gc,gl,gb⟩:=G
   have T1:Below wr.heap.size wr w1:=((Below.refl wr.heap.size wr).drew).trans hb1
   have T2:=T1.trans (HB2.out.mono T1.size)
   have HT2:=Hz T2
   clear T1 T2 hb1 hb2 HB1 HB2 HR HS HRD
   go_wp2_with fail
   refine (HG.out w2 (Rd.own HOW.out)).mono ?_
   rintro e w3 ⟨rfl,hb3⟩
   have HT3:=Hz (HT2.out.trans (hb3.mono HT2.out.size))
   have e1:=(HT3.out.cell (p:=⟨a,1,none⟩) hal').trans d1
   have hal3:a<w3.heap.size:=Nat.lt_of_lt_of_le hal' HT3.out.size
   clear hb3 HT2 HOW d0 d1 HG
   have HB4:=Hz ((HB.out.below HT3.out).alloc (.cells (rcells ⟨gp,gq,ga,gc,gl,gb⟩).toArray 64))
   have HC4:=Hz ((HC.out.below HT3.out).alloc (.cells (rcells ⟨gp,gq,ga,gc,gl,gb⟩).toArray 64))
   have HL4:=Hz (HL.out.trans ((HT3.out.alloc HT3.out.size (.cells (rcells ⟨gp,gq,ga,gc,gl,gb⟩).toArray 64)).mono HL.out.size))
   have HY:=Hz (show (k=0→cp (p:Int) xs=c)∧(k=1→cp (p:Int) xs=d) from⟨fun h=>by rw [HCD.out.1,HX.out.1,HXQ.out.1,h];rfl,fun h=>by rw [HCD.out.2,HX.out.2,HXQ.out.1,h]⟩)
   by_cases hx:x=0
   ·subst hx
    by_cases hgp:gp=p
    ·subst hgp
     have HGC:=Hz (show cp (p:Int) xs=⟨p,gq,ga,gc,gl,gb⟩ from by rw [HCP.out,if_neg (by simp)])
     rw [HGC.out] at HY
     have HYS:=Hz (hcs_yes hlt HY.out.1 HY.out.2)
     rcases (show k=0∨k=1 by omega) with rfl|rfl
     ·go_wp2
      go_region
      go_wp2_with (refine wpList_store_part rfl 64 (.tmp 46) (.tmp 45) rfl (w.heap.size+1) 0 rfl (rcells ⟨p,gq,ga,gc,gl,gb⟩) rfl HC4.out (by rw [hcs_len];simp [rcells]) size_rc6 (RecN.one_r _) ?_;intro w5 hB5 ho5)
      go_roundw
      case rel=>
       have hB6:=hB5.out
       have h6:=HYS.out
       have hn : ¬w.heap.size=w.heap.size+1:=by omega
       refine⟨1,by omega,by go_num,Hz (ho5.out.below HL4.out.drew (by omega) (HL4.out.drew).size),Hz (ho5.out.blk HB4.out hn),Hz ?_⟩
       rw [←h6]
       exact hB6
      case measure=>simp [intOf]
     ·go_wp2
      go_region
      go_wp2_with (refine wpList_store_part rfl 64 (.tmp 46) (.tmp 45) rfl (w.heap.size+1) 6 rfl (rcells ⟨p,gq,ga,gc,gl,gb⟩) rfl HC4.out (by rw [hcs_len];simp [rcells]) size_rc6 (RecN.one_r _) ?_;intro w5 hB5 ho5)
      go_roundw
      case rel=>
       have hB6:=hB5.out
       have h6:=HYS.out
       have hn : ¬w.heap.size=w.heap.size+1:=by omega
       refine⟨2,by omega,by go_num,Hz (ho5.out.below HL4.out.drew (by omega) (HL4.out.drew).size),Hz (ho5.out.blk HB4.out hn),Hz ?_⟩
       rw [←h6]
       exact hB6
      case measure=>simp [intOf]
    ·have HNO:=Hz (hcs_none hlt HY.out.1 HY.out.2 (by rw [HCP.out,if_pos (.inr hgp)]))
     go_wp2
     go_region
     go_wp2
     go_roundw
     case rel=>exact⟨k+1,by omega,by go_num,Hz HL4.out.drew,Hz HB4.out,Hz (HNO.out▸HC4.out)⟩
     case measure=>simp [intOf];omega
   ·have HNO:=Hz (hcs_none hlt HY.out.1 HY.out.2 (by rw [HCP.out,if_pos (.inl hx)]))
    have hxb:(x==0)=false:=by simpa using hx
    go_wp2
    go_region
    go_wp2
    go_roundw
    case rel=>exact⟨k+1,by omega,by go_num,Hz HL4.out.drew,Hz HB4.out,Hz (HNO.out▸HC4.out)⟩
    case measure=>simp [intOf];omega
  ·obtain rfl:k=2:=by omega
   have HT:=Hz (show Blk wr (w.heap.size+1) 216 (rcells c++rcells d) from HC.out)
   clear HC
   go_wp2_with (first
    | (refine wpList_load_blk rfl 216 _ rfl (w.heap.size+1) rfl HT.out Tryz.underlying216 rfl size_two ?_)
    | (refine wpList_store_blk rfl 216 (.tmp 2) (.tmp 48) rfl w.heap.size rfl (rcells c++rcells d) rfl HB.out rfl size_two (one_two c d) ?_;intro w9 hB9 ho9))
   have e0:=hB9.out.cell (i:=0) rfl
   have e1:=hB9.out.cell (i:=1) rfl
   have e2:=hB9.out.cell (i:=2) rfl
   have e3:=hB9.out.cell (i:=3) rfl
   have e4:=hB9.out.cell (i:=4) rfl
   have e5:=hB9.out.cell (i:=5) rfl
   have e6:=hB9.out.cell (i:=6) rfl
   have e7:=hB9.out.cell (i:=7) rfl
   have e8:=hB9.out.cell (i:=8) rfl
   have e9:=hB9.out.cell (i:=9) rfl
   have ea:=hB9.out.cell (i:=10) rfl
   have eb:=hB9.out.cell (i:=11) rfl
   refine bodyPost_ret (v:=.tuple #[.agg (rcells c++rcells d).toArray,.int .i64 0]) (by simp [results,Tryz.results152,go_sem,rcells,e0,e1,e2,e3,e4,e5,e6,e7,e8,e9,ea,eb]) rfl ?_
   exact⟨rfl,ho9.out.below HL.out (Nat.le_refl _) HL.out.size⟩
end
end CmtN
namespace CmtN
open Go.RowKit Kit Byt Mem DskA DskC DskD DskE DskF RecM CmtM StgM
open RecA (rval rcells rok)
theorem cp_none {p:Int} {xs:List Nat} (h:(cp p xs).q<1):cp p xs=Rc.none:=by
 unfold cp at h ⊢
 split
 ·rfl
 ·rename_i h0
  rw [if_neg h0] at h
  have h1:=getR_right (xs:=xs) (Classical.byContradiction fun e=>h0 (.inl e))
  unfold Rc.right at h1
  omega
theorem rok_right {r:Rc} (h:r.right):rok r:=by
 have h1:=h
 unfold Rc.right at h1
 refine⟨⟨?_,?_⟩,⟨?_,?_⟩,⟨?_,?_⟩,⟨?_,?_⟩,⟨?_,?_⟩,⟨?_,?_⟩⟩ <;> omega
theorem rok_cp (p:Int) (xs:List Nat):rok (cp p xs):=by
 by_cases h:1≤(cp p xs).q
 ·exact rok_right (cp_right h)
 ·rw [cp_none (by omega)];exact rok_none
theorem open_any (F:Nat→Prop) (g:Nat) (s:St) (p:Nat) (w:World) (hD:Dk w F g s) (hp:p≤3) (hf:10*p+2≤s.S.length) (hu:s.down=false) (hL:s.L.length≤1000000) (hb:∀i,byt (DskD.now s i)) :
 Calls Tryz.prog 103 #[.pointer (some ⟨g,0,none⟩),.int .i64 (p:Nat)] w fun e w'=>Below w.heap.size w w'∧
  ((1≤(lO s p).r.q∧∃a J,e=.returned (.tuple #[.pointer (some ⟨a,0,none⟩),.int .i64 0])∧Lm w' J a g (lO s p)∧(∀i,J i→w.heap.size≤i))∨
   ((lO s p).r.q<1∧e=.returned (.tuple #[.pointer none,.int .i64 5]))):=by
 have H1:=Hz (logOf_any F g s p w hD hp hf)
 have H2:=Hz (fun (w':World) a (hb':Below w.heap.size w w') (h:Lm w' (fun i=>i=a) a g ⟨p,Rc.none,0⟩)=>held_any (hD.below hb') h hp hf hu hL hb)
 have HO:=Hz (show lO s p=⟨p,if (cp p (now s (10*p))).q<(cp p (now s (10*p+1))).q then cp p (now s (10*p+1)) else cp p (now s (10*p)),best (cp p (now s (10*p))) (cp p (now s (10*p+1)))⟩ from by
  unfold lO late best
  split <;> rfl)
 have HKC:=Hz (And.intro (rok_cp p (now s (10*p))) (rok_cp p (now s (10*p+1))))
 have HNC:=Hz (And.intro (@cp_none p (now s (10*p))) (@cp_none p (now s (10*p+1))))
 obtain⟨R,hR⟩:∃R,R=lO s p:=⟨_,rfl⟩
 rw [←hR] at HO ⊢
 obtain⟨c,hc⟩:∃c,c=cp (p:Int) (now s (10*p)):=⟨_,rfl⟩
 obtain⟨d,hd⟩:∃d,d=cp (p:Int) (now s (10*p+1)):=⟨_,rfl⟩
 simp only [←hc,←hd] at H2 HO HKC HNC
 clear hR hc hd hD hp hf hu hL hb
 obtain⟨m,hm⟩:∃m,m=best c d:=⟨_,rfl⟩
 obtain⟨r,hr⟩:∃r,r=if c.q<d.q then d else c:=⟨_,rfl⟩
 have HN:=Hz (fun w'=>newest_any c d w')
 rw [←hm] at HN HO
 rw [←hr] at HO
 have hcase:(m=0∧r=c)∨(m=1∧r=d):=by
  rw [hm,hr];unfold best
  split
  ·exact .inr ⟨rfl,rfl⟩
  ·exact .inl ⟨rfl,rfl⟩
 have HRK:=Hz (show rok r from by rcases hcase with⟨_,e⟩|⟨_,e⟩ <;> rw [e];exact HKC.out.1;exact HKC.out.2)
 have HRN:=Hz (show r.q<1→r=Rc.none from by rcases hcase with⟨_,e⟩|⟨_,e⟩ <;> rw [e];exact HNC.out.1;exact HNC.out.2)
 clear hm hr HKC HNC
 have HDR:=Hz (show ((rcells c++rcells d).drop (m*6)).take 6=rcells r from by rcases hcase with⟨rfl,rfl⟩|⟨rfl,rfl⟩ <;> rfl)
 have hm1:m≤1:=by omega
 clear hcase
 obtain⟨b,hb⟩:∃b:Bool,b=true↔r=Rc.none:=RecA.bool_of _
 have hE:∀w:World,(Op.equalIn 10000 64 (.agg #[.int .i64 r.p,.int .i64 r.q,.int .i64 r.a,.int .i64 r.c,.int .i64 r.l,.int .i64 r.b]) (.agg #[.int .i64 0,.int .i64 0,.int .i64 0,.int .i64 0,.int .i64 0,.int .i64 0])).run Tryz.prog w=.ok b w:=fun w=>CmtC.req r Rc.none b hb w
 have HBB:=Hz (show (b=true→r.q<1)∧(b=false→1≤r.q) from⟨fun h=>by rw [hb.1 h];show (0:Int)<1;omega,fun h=>by
  refine Classical.byContradiction fun h1=>?_
  have:=hb.2 (HRN.out (by omega))
  rw [h] at this
  cases this⟩)
 clear hb
 cases b
 all_goals
  go_enter Tryz.func103,Tryz.ntmps103
  go_wp2_with (first
   | (go_at_call 151;refine H1.out.mono ?_;rintro e w1 ⟨a,rfl,ha,hlm,hb1⟩;have L1:=Hz hb1;have HA:=Hz ha;have HM1:=Hz hlm;clear hb1 ha hlm)
   | (go_at_call 152;refine (H2.out w1 a L1.out HM1.out).mono ?_;rintro e w2 ⟨rfl,hb2⟩;have L2:=Hz (L1.out.trans (hb2.mono L1.out.size));have HM2:=Hz (HM1.out.below hb2);clear hb2)
   | (refine wpList_store_blk rfl 216 (.tmp 8) (.tmp 21) rfl w2.heap.size rfl (rcells c++rcells d) rfl (Blk.new w2 216 zer) rfl size_two (one_two c d) ?_;intro w3 hB3 ho3;have L3:=Hz (show Below w.heap.size w w3 from ho3.out.below (L2.out.alloc L2.out.size _) L2.out.size (L2.out.alloc L2.out.size _).size);have hm2:=HM2.out.blk.lt;have HM3:=Hz (show Blk w3 a 169 (lgc g ⟨p,Rc.none,0⟩) from ho3.out.blk (HM2.out.blk.alloc _) (by omega));have HX3:=Hz hB3.out;clear hB3 ho3;obtain⟨xb,hxb⟩:∃xb,xb=w2.heap.size:=⟨_,rfl⟩;rw [←hxb] at HX3 hm2 ⊢;clear hxb)
   | (refine wpList_load_blk rfl 216 _ rfl xb rfl HX3.out Tryz.underlying216 rfl size_two ?_)
   | (go_at_call 153;refine (HN.out w3).mono ?_;rintro e w4 ⟨rfl,hb4⟩;have L4:=Hz (L3.out.trans (hb4.mono L3.out.size));have HM4:=Hz (HM3.out.below hb4);have HX4:=Hz (HX3.out.below hb4);have e8:=HM4.out.cell (i:=8) rfl;have f8:=HM4.out.frozen 8;have HM5:=Hz (show Blk (w4.setCell ⟨a,8,none⟩ (.int .i64 (m:Nat))) a 169 (lgc g ⟨p,Rc.none,m⟩) from HM4.out.set 8 _);have hne:xb≠a:=(by omega);have HX5:=Hz (HX4.out.far (p:=⟨a,8,none⟩) hne (.int .i64 (m:Nat)));have hs4:=HA.out;have L5:=Hz (show Below w.heap.size w (w4.setCell ⟨a,8,none⟩ (.int .i64 (m:Nat))) from (Only.set w4 a 8 _).below L4.out HA.out L4.out.size);clear hb4)
   | (refine wpList_load_part rfl 64 (.tmp 36) rfl xb (m*6) rfl [.int .i64 r.p,.int .i64 r.q,.int .i64 r.a,.int .i64 r.c,.int .i64 r.l,.int .i64 r.b] HX5.out HDR.out Tryz.underlying64 rfl size_rc6 ?_)
   | (refine wpList_store_part rfl 64 (.tmp 39) (.tmp 37) rfl a 2 rfl (rcells r) rfl HM5.out (by simp [lgc,rcells]) size_rc6 (RecN.one_r _) ?_;intro w6 hB6 ho6;have HM6:=Hz (show Blk w6 a 169 (lgc g ⟨p,r,m⟩) from hB6.out);have L6:=Hz (show Below w.heap.size w w6 from ho6.out.below L5.out HA.out L5.out.size);clear hB6 ho6)
   | (refine wpList_load_part rfl 64 (.tmp 42) rfl a 2 rfl [.int .i64 r.p,.int .i64 r.q,.int .i64 r.a,.int .i64 r.c,.int .i64 r.l,.int .i64 r.b] HM6.out rfl Tryz.underlying64 rfl size_rc6 ?_))
 ·have HQ:=Hz HBB.out.2
  go_ret2
  rw [HO.out]
  refine⟨L6.out,.inl ⟨by simpa using HQ.out,a,(fun i=>i=a),rfl,⟨HM6.out,fun _=>Iff.rfl,HRK.out⟩,fun i hi=>?_⟩⟩
  rw [show i=a from hi]
  exact HA.out
 ·have HQ:=Hz HBB.out.1
  go_ret2
  rw [HO.out]
  exact⟨L6.out,.inr ⟨by simpa using HQ.out,rfl⟩⟩
end CmtN
namespace CmtN
open Go.RowKit Kit Byt Mem DskA DskC DskD DskE DskF RecM CmtM StgM
open RecA (rval rcells rok)
open DskB (zs zs_len)
theorem sv_lS {s:St} {l:Lg} (r:Rc) (hp:l.r.p=l.p) (hq:l.r.q≤4294967295):sv s l r=lS s l r:=by
 have e:nextR l.r r=nexty l r:=by unfold nextR nexty;rw [hp]
 by_cases h:l.r.q=4294967295
 ·have e2:nx l.r r=(l.r,4):=by unfold nx;rw [if_pos (by omega)]
  unfold sv lS
  rw [if_pos h,e2,if_pos (by show (4:Int)≠0;omega)]
 ·by_cases hr:(nexty l r).right
  ·have e2:nx l.r r=(nexty l r,0):=by unfold nx;rw [if_neg (by omega),e,if_pos hr]
   unfold sv lS
   rw [if_neg h,if_pos hr,e2,e]
   rcases put1_08 s (10*l.p+(1-l.i)) (shut (nexty l r).bytes) with h0|h0
   ·rw [if_pos h0,if_neg (show ¬((nexty l r,(0:Int)).2≠0) from by simp),if_pos h0]
   ·rw [if_neg (show ¬(put1 s (10*l.p+(1-l.i)) (shut (nexty l r).bytes)).2=0 from by omega),if_neg (show ¬((nexty l r,(0:Int)).2≠0) from by simp),if_neg (show ¬(put1 s (10*l.p+(1-l.i)) (shut (nexty l r).bytes)).2=0 from by omega),h0]
  ·have e2:nx l.r r=(l.r,3):=by unfold nx;rw [if_neg (by omega),e,if_neg hr]
   unfold sv lS
   rw [if_neg h,if_neg hr,e2,if_pos (by show (3:Int)≠0;omega)]
theorem LS.ld {w:World} {F J:Nat→Prop} {g a:Nat} {s:St} {l:Lg} (h:LS w F J g a s l):LD w F J g a s l:=by
 have h1:=h.rec_.1
 unfold Rc.right at h1
 exact⟨h.dk,h.lm,h.dis,h.most,h.fits,h.rec_.2.2,by omega⟩
theorem save_any (F J:Nat→Prop) (g a:Nat) (s:St) (l:Lg) (r:Rc) (w:World) (h:LS w F J g a s l) (hr:rok r) :
 Calls Tryz.prog 75 #[.pointer (some ⟨a,0,none⟩),rval r] w (Lgo F J g a w (.int .i64 (lS s l r).2.2) (lS s l r).1 (lS s l r).2.1):=by
 have h1:=h.ld.q
 rw [←sv_lS r h.rec_.2.1 h1.2]
 exact save_at h.ld r hr
theorem sv_one (s:St) {p:Nat} (hp:p≤3):sv s ⟨p,Rc.none,1⟩ Rc.none=if (put1 s (10*p) (shut (one p).bytes)).2=0 then ((put1 s (10*p) (shut (one p).bytes)).1,⟨p,one p,0⟩,0) else ((put1 s (10*p) (shut (one p).bytes)).1,⟨p,Rc.none,1⟩,(put1 s (10*p) (shut (one p).bytes)).2):=by
 have e:nexty ⟨p,Rc.none,1⟩ Rc.none=one p:=rfl
 unfold sv
 rw [e,if_neg (by show ¬(0:Int)=4294967295;omega),if_pos (one_right hp)]
 rfl
theorem put1_done {s:St} {i:Nat} {bs:List Nat} (h:(put1 s i bs).2=0):(put1 s i bs).1.L=[]:=by
 unfold put1 at h ⊢
 split
 ·rename_i h0;rw [if_pos h0] at h;exact absurd h (by show ¬(8:Int)=0;omega)
 ·rename_i h0
  rw [if_neg h0] at h
  split
  ·rename_i h1;rw [if_pos h1] at h;exact absurd h (by show ¬(8:Int)=0;omega)
  ·rfl
theorem format_any (F:Nat→Prop) (g:Nat) (s:St) (p:Nat) (w:World) (hD:Dk w F g s) (hp:p≤3) (hf:10*p+2≤s.S.length) (_hu:s.down=false) (hL:s.L.length≤1000000) :
 Calls Tryz.prog 132 #[.pointer (some ⟨g,0,none⟩),.int .i64 (p:Nat)] w fun e w'=>∃F',Dk w' F' g (lF s p).1∧Keep F w w'∧(∀i,F' i→F i∨w.heap.size≤i)∧
  (((lF s p).2=0∧∃a J,e=.returned (.tuple #[.pointer (some ⟨a,0,none⟩),.int .i64 0])∧Lm w' J a g ⟨p,one p,0⟩∧(∀i,J i→w.heap.size≤i)∧(∀i,F' i→¬J i))∨
   ((lF s p).2=8∧e=.returned (.tuple #[.pointer none,.int .i64 8]))):=by
 obtain⟨Z,hZ⟩:∃Z,Z=(u8n (zs 64)).toArray:=⟨_,rfl⟩
 have hmk:=mk64
 simp only [←hZ] at hmk
 have HBZ:=Hz (show ∀w':World,Rd (w'.alloc (.cells Z 5)) (some ⟨w'.heap.size,0,none⟩) 64 64 (u8n (zs 64)) from fun w'=>blk_rd (t:=5) (by rw [hZ];exact Blk.new w' _ _) (zs_len 64) (by omega))
 have H1:=Hz (logOf_any F g s p w hD hp hf)
 have HD:=Hz hD
 have HF:=Hz (And.intro hp (And.intro hf hL))
 clear hZ hD hp hf hL
 go_enter Tryz.func132,Tryz.ntmps132
 go_wp2_with (go_at_call 151;refine H1.out.mono ?_;rintro e w1 ⟨a,rfl,ha,hlm,hb1⟩;have L1:=Hz hb1;have HA:=Hz ha;have HM1:=Hz hlm;have e8:=HM1.out.blk.cell (i:=8) rfl;have f8:=HM1.out.blk.frozen 8;clear hb1 ha hlm)
 have HM2:=Hz (show Lm (w1.setCell ⟨a,8,none⟩ (.int .i64 1)) (fun i=>i=a) a g ⟨p,Rc.none,1⟩ from⟨HM1.out.blk.set 8 _,fun _=>Iff.rfl,rok_none⟩)
 have L2:=Hz (show Below w.heap.size w (w1.setCell ⟨a,8,none⟩ (.int .i64 1)) from (Only.set w1 a 8 _).below L1.out HA.out L1.out.size)
 obtain⟨w2,hw2⟩:∃w2,w2=w1.setCell ⟨a,8,none⟩ (.int .i64 1):=⟨_,rfl⟩
 rw [←hw2] at HM2 L2 ⊢
 clear hw2 e8 f8 HM1 L1
 have e8:w2.cell? ⟨a,8,none⟩=some (.int .i64 1):=HM2.out.blk.cell rfl
 have hal:=HM2.out.blk.lt
 obtain⟨P,hP⟩:∃P,P=put1 s (10*p+1) (zs 64):=⟨_,rfl⟩
 have h08:=put1_08 s (10*p+1) (zs 64)
 have HW:=Hz (fun (w':World) (hb:Below w2.heap.size w2 w') A (hR:Rd w' A 64 64 (u8n (zs 64))) (hA:∀b o,A=some ⟨b,o,none⟩→¬F b)=>write_any (i:=1) (HD.out.below (L2.out.trans (hb.mono L2.out.size))) (HM2.out.below hb) (fun hF=>by have:=HD.out.lt a hF;have:=HA.out;omega) HF.out.1 (Nat.le_refl 1) HF.out.2.1 hR hA HF.out.2.2)
 dsimp only at HW
 rw [←hP] at HW h08
 have HP:=Hz hP
 have HLF:=Hz (show lF s p=if P.2=0 then put1 P.1 (10*p) (shut (one p).bytes) else (P.1,8) from by rw [hP];rfl)
 obtain⟨x,hx⟩:∃x,x=P.2:=⟨_,rfl⟩
 rw [←hx] at HW h08 HLF
 have HX:=Hz hx
 clear hP hx
 have hlt0:∀b,w2.heap.size≤b→¬F b:=fun b hb hF=>by have:=HD.out.lt b hF;have:=L2.out.size;omega
 have HLT:=Hz hlt0
 clear hlt0
 have hsv:=sv_one P.1 HF.out.1
 obtain⟨Q,hQ⟩:∃Q,Q=put1 P.1 (10*p) (shut (one p).bytes):=⟨_,rfl⟩
 have hq08:=put1_08 P.1 (10*p) (shut (one p).bytes)
 rw [←hQ] at hsv hq08 HLF
 obtain⟨y,hy⟩:∃y,y=Q.2:=⟨_,rfl⟩
 rw [←hy] at hsv hq08
 have HY:=Hz hy
 have HSV:=Hz hsv
 have LZ:=Hz (show Below w2.heap.size w2 (w2.alloc (.cells Z 5)).drew from ((Below.refl _ _).alloc (Nat.le_refl _) _).drew)
 have HRZ:=Hz (show Rd (w2.alloc (.cells Z 5)).drew (some ⟨w2.heap.size,0,none⟩) 64 64 (u8n (zs 64)) from HBZ.out w2)
 have HAZ:=Hz (show ∀b o,(some ⟨w2.heap.size,0,none⟩:Option Addr)=some ⟨b,o,none⟩→¬F b from fun b o h=>by
  injection h with h
  injection h with h _
  exact HLT.out b (by omega))
 have haF : ¬F a:=fun hF=>by have:=HD.out.lt a hF;have:=HA.out;omega
 have HAF:=Hz haF
 clear hQ hy hsv haF
 rcases h08 with rfl|rfl
 rcases hq08 with rfl|rfl
 ·rw [if_pos rfl] at HSV HLF
  go_wp2_with fail
  go_region_held3 (fun w'=>w'.cell? ⟨a,8,none⟩=some (.int .i64 1))
   (first
    | go_keep
    | exact HK3.out)
   ((go_at_call 130;refine (HW.out _ LZ.out _ HRZ.out HAZ.out).mono ?_;rintro e w3 ⟨rfl,F1,hD1,hk1,hf1⟩;have HM3:=Hz ((HM2.out.below LZ.out).keep hk1 fun i hi hF=>HAF.out ((show i=a from hi)▸hF));have HK3:=Hz (show w3.cell? ⟨a,8,none⟩=some (.int .i64 1) from HM3.out.blk.cell rfl);have HD3:=Hz hD1;have KK3:=Hz ((Keep.of_below (L2.out.trans (LZ.out.mono L2.out.size))).trans hk1 fun i hi=>.inl hi);have FF3:=Hz (show ∀i,F1 i→F i∨w.heap.size≤i from fun i hi=>(hf1 i hi).imp id fun h=>Nat.le_trans (Nat.le_trans L2.out.size LZ.out.size) h);have hs3:=hk1.size;have HNA:=Hz (show ∀i,F1 i→i≠a from fun i hi e=>by { rcases hf1 i hi with h|h;exact HAF.out (e▸h);have:=LZ.out.size;have:w2.heap.size≤i:=Nat.le_trans LZ.out.size h;omega });clear hD1 hk1 hf1))
  have HLD:=Hz (show LD w3 F1 (fun i=>i=a) g a P.1 ⟨p,Rc.none,1⟩ from⟨HD3.out,HM3.out,HNA.out,by rw [HP.out,put1_done (by rw [←HP.out,←HX.out])];exact Nat.zero_le _,⟨HF.out.1,by rw [HP.out,put1_len];exact HF.out.2.1⟩,Nat.le_refl 1,⟨by show (0:Int)≤0;omega,by show (0:Int)≤4294967295;omega⟩⟩)
  have HSA:=Hz (save_at HLD.out Rc.none rok_none)
  rw [HSV.out] at HSA
  go_wp2_with (go_at_call 75;refine HSA.out.mono ?_;rintro e w4 ⟨rfl,F2,J2,hD4,hM4,hdj,hk4,hf4,hj4⟩;have HD4:=Hz hD4;have HM4:=Hz hM4;have HDJ:=Hz hdj;have KK4:=Hz hk4;have FF4:=Hz hf4;clear hD4 hM4 hdj hk4 hf4 hj4)
  go_ret2
  rw [HLF.out]
  have ha:=HA.out
  have hs0:=L2.out.size
  have hs1:=LZ.out.size
  refine⟨F2,HD4.out,?_,fun i hi=>?_,.inl ⟨HY.out.symm,a,J2,rfl,HM4.out,fun i hi=>by rw [(HM4.out.own i).1 hi];exact ha,HDJ.out⟩⟩
  ·refine KK3.out.trans KK4.out fun i hi=>?_
   rcases hi with h|h
   ·exact FF3.out i h
   ·exact .inr (by omega)
  ·rcases FF4.out i hi with (h|h)|h
   ·exact FF3.out i h
   ·exact .inr (by omega)
   ·exact .inr (Nat.le_trans (Nat.le_trans hs0 hs1) (Nat.le_trans hs3 h))
 ·rw [if_neg (show ¬(8:Int)=0 by omega)] at HSV
  rw [if_pos rfl] at HLF
  go_wp2_with fail
  go_region_held3 (fun w'=>w'.cell? ⟨a,8,none⟩=some (.int .i64 1))
   (first
    | go_keep
    | exact HK3.out)
   ((go_at_call 130;refine (HW.out _ LZ.out _ HRZ.out HAZ.out).mono ?_;rintro e w3 ⟨rfl,F1,hD1,hk1,hf1⟩;have HM3:=Hz ((HM2.out.below LZ.out).keep hk1 fun i hi hF=>HAF.out ((show i=a from hi)▸hF));have HK3:=Hz (show w3.cell? ⟨a,8,none⟩=some (.int .i64 1) from HM3.out.blk.cell rfl);have HD3:=Hz hD1;have KK3:=Hz ((Keep.of_below (L2.out.trans (LZ.out.mono L2.out.size))).trans hk1 fun i hi=>.inl hi);have FF3:=Hz (show ∀i,F1 i→F i∨w.heap.size≤i from fun i hi=>(hf1 i hi).imp id fun h=>Nat.le_trans (Nat.le_trans L2.out.size LZ.out.size) h);have hs3:=hk1.size;have HNA:=Hz (show ∀i,F1 i→i≠a from fun i hi e=>by { rcases hf1 i hi with h|h;exact HAF.out (e▸h);have:=LZ.out.size;have:w2.heap.size≤i:=Nat.le_trans LZ.out.size h;omega });clear hD1 hk1 hf1))
  have HLD:=Hz (show LD w3 F1 (fun i=>i=a) g a P.1 ⟨p,Rc.none,1⟩ from⟨HD3.out,HM3.out,HNA.out,by rw [HP.out,put1_done (by rw [←HP.out,←HX.out])];exact Nat.zero_le _,⟨HF.out.1,by rw [HP.out,put1_len];exact HF.out.2.1⟩,Nat.le_refl 1,⟨by show (0:Int)≤0;omega,by show (0:Int)≤4294967295;omega⟩⟩)
  have HSA:=Hz (save_at HLD.out Rc.none rok_none)
  rw [HSV.out] at HSA
  go_wp2_with (go_at_call 75;refine HSA.out.mono ?_;rintro e w4 ⟨rfl,F2,J2,hD4,hM4,hdj,hk4,hf4,hj4⟩;have HD4:=Hz hD4;have HM4:=Hz hM4;have HDJ:=Hz hdj;have KK4:=Hz hk4;have FF4:=Hz hf4;clear hD4 hM4 hdj hk4 hf4 hj4)
  go_ret2
  rw [HLF.out]
  have ha:=HA.out
  have hs0:=L2.out.size
  have hs1:=LZ.out.size
  refine⟨F2,HD4.out,?_,fun i hi=>?_,.inr ⟨HY.out.symm,rfl⟩⟩
  ·refine KK3.out.trans KK4.out fun i hi=>?_
   rcases hi with h|h
   ·exact FF3.out i h
   ·exact .inr (by omega)
  ·rcases FF4.out i hi with (h|h)|h
   ·exact FF3.out i h
   ·exact .inr (by omega)
   ·exact .inr (Nat.le_trans (Nat.le_trans hs0 hs1) (Nat.le_trans hs3 h))
 ·rw [if_neg (show ¬(8:Int)=0 by omega)] at HLF
  go_wp2_with fail
  go_region_held3 (fun w'=>w'.cell? ⟨a,8,none⟩=some (.int .i64 1))
   (first
    | go_keep
    | exact HK3.out)
   ((go_at_call 130;refine (HW.out _ LZ.out _ HRZ.out HAZ.out).mono ?_;rintro e w3 ⟨rfl,F1,hD1,hk1,hf1⟩;have HM3:=Hz ((HM2.out.below LZ.out).keep hk1 fun i hi hF=>HAF.out ((show i=a from hi)▸hF));have HK3:=Hz (show w3.cell? ⟨a,8,none⟩=some (.int .i64 1) from HM3.out.blk.cell rfl);have HD3:=Hz hD1;have KK3:=Hz ((Keep.of_below (L2.out.trans (LZ.out.mono L2.out.size))).trans hk1 fun i hi=>.inl hi);have FF3:=Hz (show ∀i,F1 i→F i∨w.heap.size≤i from fun i hi=>(hf1 i hi).imp id fun h=>Nat.le_trans (Nat.le_trans L2.out.size LZ.out.size) h);have hs3:=hk1.size;have HNA:=Hz (show ∀i,F1 i→i≠a from fun i hi e=>by { rcases hf1 i hi with h|h;exact HAF.out (e▸h);have:=LZ.out.size;have:w2.heap.size≤i:=Nat.le_trans LZ.out.size h;omega });clear hD1 hk1 hf1))
  go_wp2
  go_ret2
  rw [HLF.out]
  exact⟨F1,HD3.out,KK3.out,FF3.out,.inr ⟨rfl,rfl⟩⟩
end CmtN
namespace StoW
open Go.RowKit Kit Byt Mem DskA DskB DskD DskE DskF RecM BitM BitA BitB BitC StgM StgP StgQ CmtM Put2 StoM ImgT StoV
abbrev Ks:=St×(Nat→Pt)×Int
def ksp (P:Pt):Nat:=if P.l.r.c=0 then 1 else 0
section
variable (n:Nat) (T:Int) (chk:Nat→Ig→Int→Int) (s:St) (P:Nat→Pt)
def kfr (p:Int):Int:=if p<0∨(n:Int)≤p then 3 else if (P p.toNat).l.r.a≠(P p.toNat).l.r.c then 18 else 0
def kslot (p:Nat) (c:Sa):Ks:=((sA s ((P p).t (ksp (P p))) c).1,upd P p { P p with t:=upd (P p).t (ksp (P p)) (sA s ((P p).t (ksp (P p))) c).2.1 },(sA s ((P p).t (ksp (P p))) c).2.2)
def ksave (p:Nat) (r:Rc):Ks:=((lS s (P p).l r).1,upd P p { P p with l:=(lS s (P p).l r).2.1 },(lS s (P p).l r).2.2)
def kbg (p ses:Int):Int:=if kfr n P p≠0 then kfr n P p else if ((P p.toNat).t (ksp (P p.toNat))).has=false then 16 else if ((P p.toNat).t (ksp (P p.toNat))).g.s≠ses then 17 else 0
def kgot (p:Nat):List Nat×Int:=pY s ((P p).t (ksp (P p)))
def kruns (p:Nat):Ig:=iG (pY s ((P p).t (sl (P p).l.r.a))).1
def ksealR (p:Nat):Rc:={ (P p).l.r with a:=(ksp (P p):Nat),l:=T,b:=0 }
def kseal (p ses:Int):Ks:=
 if kbg n P p ses≠0 then (s,P,kbg n P p ses)
 else if (kgot s P p.toNat).2≠0 then (s,P,(kgot s P p.toNat).2)
 else if (iG (kgot s P p.toNat).1).e≠0 then (s,P,(iG (kgot s P p.toNat).1).e)
 else if chk p.toNat (iG (kgot s P p.toNat).1) (kruns s P p.toNat).v≠0 then (s,P,chk p.toNat (iG (kgot s P p.toNat).1) (kruns s P p.toNat).v)
 else ksave s P p.toNat (ksealR T P p.toNat)
def kDo (a:Da):Ks:=
 if a.k=0 then (if kfr n P a.p≠0 then (s,P,kfr n P a.p) else kslot s P a.p.toNat ⟨0,a.n,a.z,0,[]⟩)
 else if a.k=1 then (if kfr n P a.p≠0 then (s,P,kfr n P a.p) else kslot s P a.p.toNat ⟨1,a.n,0,a.no,a.d⟩)
 else if a.k=2 then kseal n T chk s P a.p a.n
 else if a.k=3 then (if kbg n P a.p a.n≠0 then (s,P,kbg n P a.p a.n) else kslot s P a.p.toNat ⟨2,0,0,0,[]⟩)
 else if a.k=4 then (if a.p<0∨(n:Int)≤a.p then (s,P,3) else if (P a.p.toNat).l.r.a=(P a.p.toNat).l.r.c then (s,P,0) else ksave s P a.p.toNat (bootR (P a.p.toNat).l.r))
 else (if a.p<0∨(n:Int)≤a.p then (s,P,3) else if (P a.p.toNat).l.r.a=(P a.p.toNat).l.r.c then (s,P,16) else ksave s P a.p.toNat (confR (P a.p.toNat).l.r))
end
section
variable {n:Nat} {T:Int} {chk:Nat→Ig→Int→Int} {s:St} {P:Nat→Pt} {D:Dc} {p:Nat}
theorem ksp_eq {o:Ow} {Q:Pt} (h:PtOk p Q o):ksp Q=spr o:=by
 unfold ksp spr
 rw [h.lr]
theorem kfr_eq (h:∀p,p<n→PtOk p (P p) (D.O p)) (q:Int):kfr n P q=dfr n D q:=by
 unfold kfr dfr
 by_cases h1:q<0∨(n:Int)≤q
 ·rw [if_pos h1,if_pos h1]
 ·rw [if_neg h1,if_neg h1,(h q.toNat (by omega)).lr]
theorem kbg_eq (h:∀p,p<n→PtOk p (P p) (D.O p)) (q ses:Int):kbg n P q ses=dbg n D q ses:=by
 unfold kbg dbg
 rw [kfr_eq h]
 by_cases h1:dfr n D q≠0
 ·rw [if_pos h1,if_pos h1]
 ·obtain⟨p,rfl,hp,_⟩:=dfr_0 (Classical.byContradiction h1)
  have hk:=h p hp
  rw [if_neg h1,if_neg h1,show ((p:Int)).toNat=p from by omega,ksp_eq hk,hk.t _ (spr_le _)]
  rfl
def Out (n:Nat) (P:Nat→Pt) (O O2:Nat→Ow) (e:Int) (r:Ks):Prop:=
 (r.2.2=e∧r.2.2≠8∧SU r.1 n r.2.1 O2)∨(r.2.2=8∧e=0∧r.2.1=P∧SD r.1 n P O O2)
theorem out_no (h:SU s n P D.O) {e:Int} (he:e≠8):Out n P D.O D.O e (s,P,e):=.inl ⟨rfl,he,h⟩
theorem out_slot (h:SU s n P D.O) (hp:p<n) (c:Sa) (hb:byt c.d):Out n P D.O (dslot D p c).1.O (dslot D p c).2 (kslot s P p c):=by
 have hk:=ksp_eq (h.pt p hp)
 unfold kslot
 rw [hk]
 rcases slot_up h hp (spr_le _) rfl c hb with h1|⟨h1,h2,h3,h4⟩
 ·exact .inl h1
 ·refine .inr ⟨h1,h2,?_,h4⟩
  show upd P p { P p with t:=upd (P p).t (spr (D.O p)) (sA s ((P p).t (spr (D.O p))) c).2.1 }=P
  rw [h3,upd_same,upd_same]
theorem out_save (h:SU s n P D.O) (hp:p<n) (r:Rc):Out n P D.O (dsave D p r).1.O (dsave D p r).2 (ksave s P p r):=by
 unfold ksave
 rcases log_up h hp r with h1|⟨h1,h2,h3,h4⟩
 ·exact .inl h1
 ·refine .inr ⟨h1,h2,?_,h4⟩
  show upd P p { P p with l:=(lS s (P p).l r).2.1 }=P
  rw [h3,upd_same]
theorem rY_8 (x:Rf):(rY x).2≠8:=by
 unfold rY
 repeat' split
 ·show (16:Int)≠8;omega
 ·show (11:Int)≠8;omega
 ·show (0:Int)≠8;omega
theorem iG_8 (ys:List Nat):(iG ys).e≠8:=by
 unfold iG
 have h:=rdI_e ((ys.take (ys.length-36)).drop 2)
 repeat' split
 ·show (1:Int)≠8;omega
 ·show (10:Int)≠8;omega
 ·show (2:Int)≠8;omega
 ·show (rdI ((ys.take (ys.length-36)).drop 2)).e≠8;omega
 ·omega
 ·show (3:Int)≠8;omega
theorem dfr_8 (q:Int):dfr n D q≠8:=by
 unfold dfr
 repeat' split
 all_goals omega
theorem dbg_8 (q ses:Int):dbg n D q ses≠8:=by
 unfold dbg
 repeat' split
 ·exact dfr_8 q
 all_goals omega
theorem out_seal (hc8:∀p i v,chk p i v≠8) (h:SU s n P D.O) (hD:DI n chk D) (q ses:Int):Out n P D.O (dseal n T chk D q ses).1.O (dseal n T chk D q ses).2 (kseal n T chk s P q ses):=by
 unfold kseal dseal
 rw [kbg_eq h.pt]
 by_cases h1:dbg n D q ses≠0
 ·rw [if_pos h1,if_pos h1];exact out_no h (dbg_8 _ _)
 rw [if_neg h1,if_neg h1]
 obtain⟨p,rfl,hp,ha⟩:=dfr_0 (dbg_0 (Classical.byContradiction h1))
 rw [show ((p:Int)).toNat=p from by omega]
 have hk:=h.pt p hp
 have hg:kgot s P p=got D p:=by
  unfold kgot got
  rw [ksp_eq hk]
  exact same_Y (h.inv hp (spr_le _))
 have hr:kruns s P p=D.I p (sl (D.O p).r.a):=by
  unfold kruns
  have har:=(h.ok p hp).right.1.2.2.1
  rw [hk.lr,same_Y (h.inv hp (k:=sl (D.O p).r.a) (by unfold sl;omega))]
  exact (hD p hp).1.is
 have hsr:ksealR T P p=sealR T D p:=by unfold ksealR sealR;rw [ksp_eq hk,hk.lr]
 rw [hg,hr,hsr]
 by_cases h2:(got D p).2≠0
 ·rw [if_pos h2,if_pos h2];exact out_no h (rY_8 _)
 rw [if_neg h2,if_neg h2]
 by_cases h3:(iG (got D p).1).e≠0
 ·rw [if_pos h3,if_pos h3];exact out_no h (iG_8 _)
 rw [if_neg h3,if_neg h3]
 by_cases h4:chk p (iG (got D p).1) (D.I p (sl (D.O p).r.a)).v≠0
 ·rw [if_pos h4,if_pos h4];exact out_no h (hc8 _ _ _)
 rw [if_neg h4,if_neg h4]
 have ho:=out_save h hp (sealR T D p)
 by_cases h5:(nx (D.O p).r (sealR T D p)).2=0
 ·rw [if_pos h5]
  have e:(dsave D p (sealR T D p)).2=0:=h5
  rw [e] at ho
  exact ho
 ·rw [if_neg h5]
  have e1:(dsave D p (sealR T D p)).1.O=D.O:=by
   rcases nx_cases (D.O p).r (sealR T D p) with⟨e0,_⟩|⟨_,e1⟩
   ·exact absurd e0 h5
   ·show upd D.O p { D.O p with r:=(nx (D.O p).r (sealR T D p)).1 }=D.O
    rw [e1]
    exact upd_same _ _
  rw [e1] at ho
  exact ho
theorem out_do (hc8:∀p i v,chk p i v≠8) (h:SU s n P D.O) (hD:DI n chk D) (a:Da) (hb:byt a.d):Out n P D.O (dDo n T chk D a).1.O (dDo n T chk D a).2 (kDo n T chk s P a):=by
 have hnil:byt ([]:List Nat):=fun c hc=>by cases hc
 have hs:∀c:Sa,byt c.d→dfr n D a.p=0→Out n P D.O (dslot D a.p.toNat c).1.O (dslot D a.p.toNat c).2 (kslot s P a.p.toNat c):=fun c hc h0=>by
  obtain⟨p,e,hp,ha⟩:=dfr_0 h0
  rw [e,show ((p:Int)).toNat=p from by omega]
  exact out_slot h hp c hc
 unfold kDo dDo
 rw [kfr_eq h.pt,kbg_eq h.pt]
 by_cases k0:a.k=0
 ·rw [if_pos k0,if_pos k0]
  by_cases h0:dfr n D a.p≠0
  ·rw [if_pos h0,if_pos h0];exact out_no h (dfr_8 _)
  ·rw [if_neg h0,if_neg h0];exact hs _ hnil (Classical.byContradiction h0)
 rw [if_neg k0,if_neg k0]
 by_cases k1:a.k=1
 ·rw [if_pos k1,if_pos k1]
  by_cases h0:dfr n D a.p≠0
  ·rw [if_pos h0,if_pos h0];exact out_no h (dfr_8 _)
  ·rw [if_neg h0,if_neg h0];exact hs _ hb (Classical.byContradiction h0)
 rw [if_neg k1,if_neg k1]
 by_cases k2:a.k=2
 ·rw [if_pos k2,if_pos k2];exact out_seal hc8 h hD _ _
 rw [if_neg k2,if_neg k2]
 by_cases k3:a.k=3
 ·rw [if_pos k3,if_pos k3]
  by_cases h0:dbg n D a.p a.n≠0
  ·rw [if_pos h0,if_pos h0];exact out_no h (dbg_8 _ _)
  ·rw [if_neg h0,if_neg h0];exact hs _ hnil (dbg_0 (Classical.byContradiction h0))
 rw [if_neg k3,if_neg k3]
 by_cases k4:a.k=4
 ·rw [if_pos k4,if_pos k4]
  by_cases h0:a.p<0∨(n:Int)≤a.p
  ·rw [if_pos h0,if_pos h0];exact out_no h (by omega)
  rw [if_neg h0,if_neg h0,(h.pt a.p.toNat (by omega)).lr]
  by_cases h9:(D.O a.p.toNat).r.a=(D.O a.p.toNat).r.c
  ·rw [if_pos h9,if_pos h9];exact out_no h (by omega)
  ·rw [if_neg h9,if_neg h9];exact out_save h (by omega) _
 ·rw [if_neg k4,if_neg k4]
  by_cases h0:a.p<0∨(n:Int)≤a.p
  ·rw [if_pos h0,if_pos h0];exact out_no h (by omega)
  rw [if_neg h0,if_neg h0,(h.pt a.p.toNat (by omega)).lr]
  by_cases h9:(D.O a.p.toNat).r.a=(D.O a.p.toNat).r.c
  ·rw [if_pos h9,if_pos h9];exact out_no h (by omega)
  ·rw [if_neg h9,if_neg h9];exact out_save h (by omega) _
end
end StoW
namespace StoN
open Go.RowKit Kit Byt Mem DskA DskE RecM StgM CmtM StoM StoW
open RecA (rval rcells rok sval scells sok)
open StgN (Sm DS Sgo)
open CmtN (Lm LS Lgo)
open TabA (Tri Tris Ta)
inductive Zl
 | out
 | head
 | list
 | tab
 | log (p:Nat)
 | slot (p k:Nat)
structure Lo where
 z:Nat
 pb:Nat
 pc:Nat
 PC:List Value
 la:Nat→Nat
 sa:Nat→Nat→Nat
def pcs (g la s0 s1:Nat):List Value:=[.pointer (some ⟨la,0,none⟩),.pointer (some ⟨s0,0,none⟩),.pointer (some ⟨s1,0,none⟩),.pointer (some ⟨g,0,none⟩)]
@[reducible] def pval (g la s0 s1:Nat):Value:=.agg #[.pointer (some ⟨la,0,none⟩),.pointer (some ⟨s0,0,none⟩),.pointer (some ⟨s1,0,none⟩),.pointer (some ⟨g,0,none⟩)]
@[reducible] def pzero:Value:=.agg #[.pointer none,.pointer none,.pointer none,.pointer none]
def isZ (ζ:Nat→Zl) (i:Nat):Prop:=∃p,ζ i=.log p∨∃k,ζ i=.slot p k
theorem Tris.keep {w w':World} {G:Nat→Prop} {A:Option Addr} {n c:Nat} {R:List Tri} (h:Tris w A n c R) (k:Keep G w w') (hd:0<n→∀q o,A=some ⟨q,o,none⟩→¬G q):Tris w' A n c R:=
 ⟨h.1,h.2.1,h.2.2.1,h.2.2.2.1,fun hp=>by
  obtain⟨b,o,hA,hbl,hc⟩:=h.2.2.2.2 hp
  exact⟨b,o,hA,Nat.lt_of_lt_of_le hbl k.size,fun i r hr j u hu=>(World.cell?_of_block (k.block b hbl (hd hp b o hA))).trans (hc i r hr j u hu)⟩⟩
structure Zm (w:World) (ζ:Nat→Zl) (g:Nat) (t:Ta) (n:Nat) (P:Nat→Pt) (Z:Lo):Prop where
 head:Blk w Z.z 112 (t.cells++[.slice (some ⟨Z.pb,0,none⟩) n Z.pc])
 tok:t.ok w
 tb:(0<t.n1→∀q o,t.A1=some ⟨q,o,none⟩→ζ q=.tab)∧(0<t.n2→∀q o,t.A2=some ⟨q,o,none⟩→ζ q=.tab)∧(0<t.n3→∀q o,t.A3=some ⟨q,o,none⟩→ζ q=.tab)
 n4:n=t.n1∧n≤4∧n≤Z.pc∧Z.pc≤9223372036854775807
 list:Blk w Z.pb 118 Z.PC
 own:∀p,p<n→p*4+4≤Z.PC.length∧(Z.PC.drop (p*4)).take 4=pcs g (Z.la p) (Z.sa p 0) (Z.sa p 1)
 log:∀p,p<n→Lm w (fun i=>i=Z.la p) (Z.la p) g (P p).l
 slot:∀p,p<n→∀k,k≤1→Sm w (fun i=>i=Z.sa p k) (Z.sa p k) g ((P p).t k)
 rz:ζ Z.z=.head
 rb:ζ Z.pb=.list
 rl:∀p,p<n→ζ (Z.la p)=.log p
 rs:∀p,p<n→∀k,k≤1→ζ (Z.sa p k)=.slot p k
 lt:∀i,ζ i≠.out→i<w.heap.size
section
variable {w w':World} {ζ:Nat→Zl} {G:Nat→Prop} {g n:Nat} {t:Ta} {P:Nat→Pt} {Z:Lo}
theorem Zm.keep1 (h:Zm w ζ g t n P Z) (k:Keep G w w') (hd:∀i,ζ i=.head∨ζ i=.list∨ζ i=.tab→¬G i) {P':Nat→Pt} (hl:∀p,p<n→Lm w' (fun i=>i=Z.la p) (Z.la p) g (P' p).l) (hs:∀p,p<n→∀k,k≤1→Sm w' (fun i=>i=Z.sa p k) (Z.sa p k) g ((P' p).t k)):Zm w' ζ g t n P' Z:=
 ⟨k.blk h.head (hd _ (.inl h.rz)),⟨Tris.keep h.tok.P k fun h0 q o e=>hd _ (.inr (.inr (h.tb.1 h0 q o e))),Tris.keep h.tok.W k fun h0 q o e=>hd _ (.inr (.inr (h.tb.2.1 h0 q o e))),Tris.keep h.tok.C k fun h0 q o e=>hd _ (.inr (.inr (h.tb.2.2 h0 q o e))),h.tok.f0,h.tok.f1,h.tok.t0,h.tok.t1⟩,h.tb,h.n4,
  k.blk h.list (hd _ (.inr (.inl h.rb))),h.own,hl,hs,h.rz,h.rb,h.rl,h.rs,fun i hi=>Nat.lt_of_lt_of_le (h.lt i hi) k.size⟩
theorem Zm.keep (h:Zm w ζ g t n P Z) (k:Keep G w w') (hd:∀i,ζ i≠.out→¬G i):Zm w' ζ g t n P Z:=
 h.keep1 k (fun i hi=>hd i fun e=>by rw [e] at hi;rcases hi with hi|hi|hi <;> cases hi)
  (fun p hp=>(h.log p hp).keep k fun i hi=>hd i fun e=>by rw [show i=Z.la p from hi,h.rl p hp] at e;cases e)
  (fun p hp j hj=>(h.slot p hp j hj).keep k fun i hi=>hd i fun e=>by rw [show i=Z.sa p j from hi,h.rs p hp j hj] at e;cases e)
theorem Zm.below (h:Zm w ζ g t n P Z) (hb:Below w.heap.size w w'):Zm w' ζ g t n P Z:=h.keep (Keep.of_below (F:=fun _=>False) hb) fun _ _ h=>h
theorem Zm.tcells (h:Zm w ζ g t n P Z):w.cell? ⟨Z.z,0,none⟩=some (.int .i64 t.fr)∧w.cell? ⟨Z.z,1,none⟩=some (.slice t.A1 t.n1 t.c1)∧w.cell? ⟨Z.z,2,none⟩=some (.slice t.A2 t.n2 t.c2)∧w.cell? ⟨Z.z,3,none⟩=some (.slice t.A3 t.n3 t.c3)∧w.cell? ⟨Z.z,4,none⟩=some (.int .i64 t.tr)∧w.cell? ⟨Z.z,5,none⟩=some (.slice (some ⟨Z.pb,0,none⟩) n Z.pc):=
 ⟨h.head.cell rfl,h.head.cell rfl,h.head.cell rfl,h.head.cell rfl,h.head.cell rfl,h.head.cell rfl⟩
end
structure DZ (w:World) (F:Nat→Prop) (ζ:Nat→Zl) (g:Nat) (s:St) (t:Ta) (n:Nat) (P:Nat→Pt) (Z:Lo):Prop where
 dk:Dk w F g s
 zm:Zm w ζ g t n P Z
 dis:∀i,F i→ζ i=.out
 most:s.L.length≤1000000
 len:10*n≤s.S.length
 at_:∀p,p<n→(P p).l.p=p∧∀k,k≤1→((P p).t k).p=p∧((P p).t k).k=k
def Zgo (F:Nat→Prop) (ζ:Nat→Zl) (g:Nat) (t:Ta) (n:Nat) (Z:Lo) (w:World) (s':St) (P':Nat→Pt) (w':World):Prop:=
 ∃F',Dk w' F' g s'∧Zm w' ζ g t n P' Z∧(∀i,F' i→ζ i=.out)∧Keep (fun i=>F i∨isZ ζ i) w w'∧(∀i,F' i→F i∨w.heap.size≤i)
section
variable {w w':World} {F:Nat→Prop} {ζ:Nat→Zl} {g n p k:Nat} {s s':St} {t:Ta} {P:Nat→Pt} {Z:Lo}
theorem DZ.below (h:DZ w F ζ g s t n P Z) (hb:Below w.heap.size w w'):DZ w' F ζ g s t n P Z:=⟨h.dk.below hb,h.zm.below hb,h.dis,h.most,h.len,h.at_⟩
theorem DZ.ds (h:DZ w F ζ g s t n P Z) (hp:p<n) (hk:k≤1):DS w F (fun i=>i=Z.sa p k) g (Z.sa p k) s ((P p).t k):=by
 have ha:=(h.at_ p hp).2 k hk
 have hn:=h.zm.n4
 have hl:=h.len
 exact⟨h.dk,h.zm.slot p hp k hk,fun i hf hi=>(by have:=h.dis i hf;rw [show i=Z.sa p k from hi,h.zm.rs p hp k hk] at this;cases this),h.most,by rw [ha.1];omega,by rw [ha.2];exact hk,by unfold Slt.at_;rw [ha.1,ha.2];omega⟩
theorem DZ.ls (h:DZ w F ζ g s t n P Z) (hp:p<n) (hr:(P p).l.r.right∧(P p).l.r.p=(P p).l.p∧(P p).l.i≤1):LS w F (fun i=>i=Z.la p) g (Z.la p) s (P p).l:=by
 have ha:=(h.at_ p hp).1
 have hn:=h.zm.n4
 have hl:=h.len
 exact⟨h.dk,h.zm.log p hp,fun i hf hi=>(by have:=h.dis i hf;rw [show i=Z.la p from hi,h.zm.rl p hp] at this;cases this),h.most,⟨by rw [ha];omega,by rw [ha];omega⟩,hr⟩
theorem DZ.still (h:DZ w F ζ g s t n P Z) (hb:Below w.heap.size w w'):Zgo F ζ g t n Z w s P w':=
 ⟨F,h.dk.below hb,h.zm.below hb,h.dis,Keep.of_below hb,fun _ hi=>.inl hi⟩
theorem Zgo.from {w1:World} {P':Nat→Pt} (hb:Below w.heap.size w w1) (h:Zgo F ζ g t n Z w1 s' P' w'):Zgo F ζ g t n Z w s' P' w':=by
 obtain⟨F',h1,h2,h3,h4,h5⟩:=h
 exact⟨F',h1,h2,h3,(Keep.of_below (F:=fun i=>F i∨isZ ζ i) hb).trans h4 fun i hi=>.inl hi,fun i hi=>(h5 i hi).imp id fun h=>Nat.le_trans hb.size h⟩
theorem DZ.sgo {v:Value} {e:Ending} {t':Slt} (h:DZ w F ζ g s t n P Z) (hp:p<n) (hk:k≤1) (hg:Sgo F (fun i=>i=Z.sa p k) g (Z.sa p k) w v s' t' e w') :
 e=.returned v∧Zgo F ζ g t n Z w s' (upd P p { P p with t:=upd (P p).t k t' }) w':=by
 obtain⟨he,F',J',h1,h2,h3,h4,h5,h6⟩:=hg
 have hz:=h.zm
 have hne:∀i,ζ i≠.out→(∀q j,ζ i=.slot q j→¬(q=p∧j=k))→¬(F i∨i=Z.sa p k):=fun i hi hs hh=>by
  rcases hh with hh|hh
  ·exact hi (h.dis i hh)
  ·rw [hh] at hs;exact hs p k (hz.rs p hp k hk) ⟨rfl,rfl⟩
 have hF:∀i,F' i→F i∨w.heap.size≤i:=fun i hi=>by
  rcases h5 i hi with (h7|h7)|h7
  ·exact .inl h7
  ·exact absurd ((h2.own i).2 h7) (h3 i hi)
  ·exact .inr h7
 refine⟨he,F',h1,?_,fun i hi=>?_,h4.mono fun i _ hi=>hi.imp id fun e=>⟨p,.inr ⟨k,by rw [e];exact hz.rs p hp k hk⟩⟩,hF⟩
 ·refine hz.keep1 h4 (fun i hi=>hne i (fun e=>by rw [e] at hi;rcases hi with hi|hi|hi <;> cases hi) fun q j e=>by rw [e] at hi;rcases hi with hi|hi|hi <;> cases hi) (fun q hq=>?_) (fun q hq j hj=>?_)
  ·have e:(upd P p { P p with t:=upd (P p).t k t' } q).l=(P q).l:=by
    by_cases e:q=p
    ·subst e;rw [upd_at]
    ·rw [upd_ne _ _ e]
   rw [e]
   exact (hz.log q hq).keep h4 fun i hi=>hne i (by rw [show i=Z.la q from hi,hz.rl q hq];intro e;cases e) fun a b e=>by rw [show i=Z.la q from hi,hz.rl q hq] at e;cases e
  ·by_cases e:q=p∧j=k
   ·obtain⟨rfl,rfl⟩:=e
    rw [upd_at]
    show Sm w' _ _ g (upd (P q).t j t' j)
    rw [upd_at]
    exact⟨h2.blk,fun _=>Iff.rfl,h2.is,h2.ok⟩
   ·have e2:(upd P p { P p with t:=upd (P p).t k t' } q).t j=(P q).t j:=by
     by_cases e3:q=p
     ·subst e3
      rw [upd_at]
      exact upd_ne _ _ fun e4=>e ⟨rfl,e4⟩
     ·rw [upd_ne _ _ e3]
    rw [e2]
    refine (hz.slot q hq j hj).keep h4 fun i hi=>hne i (by rw [show i=Z.sa q j from hi,hz.rs q hq j hj];intro e;cases e) fun a b e5=>?_
    rw [show i=Z.sa q j from hi,hz.rs q hq j hj] at e5
    injection e5 with e6 e7
    subst e6 e7
    exact e
 ·rcases hF i hi with h7|h7
  ·exact h.dis i h7
  ·exact Classical.byContradiction fun h8=>by have:=hz.lt i h8;omega
theorem DZ.lgo {v:Value} {e:Ending} {l':Lg} (h:DZ w F ζ g s t n P Z) (hp:p<n) (hg:Lgo F (fun i=>i=Z.la p) g (Z.la p) w v s' l' e w') :
 e=.returned v∧Zgo F ζ g t n Z w s' (upd P p { P p with l:=l' }) w':=by
 obtain⟨he,F',J',h1,h2,h3,h4,h5,h6⟩:=hg
 have hz:=h.zm
 have hne:∀i,ζ i≠.out→(∀q,ζ i=.log q→q≠p)→¬(F i∨i=Z.la p):=fun i hi hs hh=>by
  rcases hh with hh|hh
  ·exact hi (h.dis i hh)
  ·rw [hh] at hs;exact hs p (hz.rl p hp) rfl
 have hF:∀i,F' i→F i∨w.heap.size≤i:=fun i hi=>by
  rcases h5 i hi with (h7|h7)|h7
  ·exact .inl h7
  ·exact absurd ((h2.own i).2 h7) (h3 i hi)
  ·exact .inr h7
 refine⟨he,F',h1,?_,fun i hi=>?_,h4.mono fun i _ hi=>hi.imp id fun e=>⟨p,.inl (by rw [e];exact hz.rl p hp)⟩,hF⟩
 ·refine hz.keep1 h4 (fun i hi=>hne i (fun e=>by rw [e] at hi;rcases hi with hi|hi|hi <;> cases hi) fun q e=>by rw [e] at hi;rcases hi with hi|hi|hi <;> cases hi) (fun q hq=>?_) (fun q hq j hj=>?_)
  ·by_cases e:q=p
   ·subst e
    rw [upd_at]
    exact⟨h2.blk,fun _=>Iff.rfl,h2.ok⟩
   ·rw [upd_ne _ _ e]
    refine (hz.log q hq).keep h4 fun i hi=>hne i (by rw [show i=Z.la q from hi,hz.rl q hq];intro e;cases e) fun a e5=>?_
    rw [show i=Z.la q from hi,hz.rl q hq] at e5
    injection e5 with e6
    subst e6
    exact e
  ·have e2:(upd P p { P p with l:=l' } q).t j=(P q).t j:=by
    by_cases e3:q=p
    ·subst e3;rw [upd_at]
    ·rw [upd_ne _ _ e3]
   rw [e2]
   exact (hz.slot q hq j hj).keep h4 fun i hi=>hne i (by rw [show i=Z.sa q j from hi,hz.rs q hq j hj];intro e;cases e) fun a e=>by rw [show i=Z.sa q j from hi,hz.rs q hq j hj] at e;cases e
 ·rcases hF i hi with h7|h7
  ·exact h.dis i h7
  ·exact Classical.byContradiction fun h8=>by have:=hz.lt i h8;omega
end
end StoN
namespace ImgU
open Go.RowKit Kit Byt Mem Beq ShaM ShaE ImgA ImgB ImgS ImgP ImgR ImgG ImgT
theorem has_no (b o n c:Nat) (B:Option Addr) (d:Nat) (ys:List Nat) (w:World) (hR:Rd w (some ⟨b,o,none⟩) n c (u8n ys)) (hx:by256 ys) (hP:Rd w B 2 d (u8n [76,73])) (ht:ys.take 2≠[76,73]) :
 Calls Tryz.prog 211 #[.slice (some ⟨b,o,none⟩) n c,.slice B 2 d] w fun e w'=>e=.returned (.bool false)∧w=w':=by
 have hn:ys.length=n:=Rd.nats hR
 have hc:=hR.le
 have hc2:=hR.cap
 by_cases h2:2≤n
 ·have hq:=equal_any (some ⟨b,o,none⟩) B 2 2 c d (ys.take 2) [76,73] w (by have:=hR.take (k:=2) (by omega);simpa [u8n,List.map_take] using this) hP (fun u hu=>hx u (List.mem_of_mem_take hu)) (by intro u hu;simp at hu;omega)
  rw [decide_eq_false ht] at hq
  have HQ:=Hz hq
  clear hq hR hP ht hx
  have k0:(2:Int)≤(n:Int):=by omega
  have k1:(2:Int)≤(c:Int):=by omega
  have k2:2≤c:=by omega
  go_enter Tryz.func211,Tryz.ntmps211
  go_wp2_with (go_at_call 172;refine HQ.out.mono ?_;rintro e w' ⟨rfl,rfl⟩)
  go_ret
  exact⟨rfl,rfl⟩
 ·have k0 : ¬(2:Int)≤(n:Int):=by omega
  have k1:(n:Int)<2:=by omega
  clear hR hP ht hx hn hc hc2 h2
  go_enter Tryz.func211,Tryz.ntmps211
  go_wp2
  go_ret
  exact⟨rfl,rfl⟩
theorem cut_no (b o n c:Nat) (B:Option Addr) (d:Nat) (ys:List Nat) (w:World) (hR:Rd w (some ⟨b,o,none⟩) n c (u8n ys)) (hx:by256 ys) (hP:Rd w B 2 d (u8n [76,73])) (ht:ys.take 2≠[76,73]) :
 Calls Tryz.prog 173 #[.slice (some ⟨b,o,none⟩) n c,.slice B 2 d] w fun e w'=>e=.returned (.tuple #[.slice (some ⟨b,o,none⟩) n c,.bool false])∧w=w':=by
 have HH:=Hz (has_no b o n c B d ys w hR hx hP ht)
 clear hR hP ht hx
 go_enter Tryz.func173,Tryz.ntmps173
 go_wp2_with (go_at_call 211;refine HH.out.mono ?_;rintro e w' ⟨rfl,rfl⟩)
 go_ret2
 exact⟨rfl,rfl⟩
theorem get_left (A:Option Addr) (n c:Nat) (zs:List Nat) (w:World) (hT:Tab w) (hR:Rd w A n c (u8n (closed zs))) (hz:by256 zs) (h2:2≤zs.length) (hm:zs.length≤1000) (ht:zs.take 2=[76,73])
 {v1 v2 v3 v4 v5 v6 v7 e1 e2 e3 e4 e5 e6 e7 e8:Int} {x1 x2 x3 x4 x5 x6 x7 x8 cs:List Int}
 (r1:TabR.rdN 1 (nl (zs.drop 2)) 0=(v1,x1,e1)) (r2:TabR.rdN 2 x1 e1=(v2,x2,e2)) (r3:TabR.rdN 2 x2 e2=(v3,x3,e3)) (r4:TabR.rdN 1 x3 e3=(v4,x4,e4)) (r5:TabR.rdN 1 x4 e4=(v5,x5,e5)) (r6:TabR.rdN 1 x5 e5=(v6,x6,e6)) (r7:TabR.rdN 1 x6 e6=(v7,x7,e7)) (r8:TxtR.rtx x7 e7=(cs,x8,e8))
 (hen:TabR.endN x8 e8=2):Calls Tryz.prog 126 #[.slice A n c] w (Gt w zeroV 2):=by
 have hn:(closed zs).length=n:=Rd.nats hR
 rw [closed_len] at hn
 have hc:=hR.le
 have hc2:=hR.cap
 obtain⟨b,o,rfl,_,_⟩:=hR.2.2.2 (by omega)
 have HB0:=Hz (own0 w)
 have HL0:=Hz ((Below.refl w.heap.size w).alloc (Nat.le_refl _) (.cells #[.int .i64 0,.int .i64 0,.int .i64 0,.int .i64 0,.int .i64 0,.int .i64 0,.int .i64 0,.slice none 0 0] 54))
 have HN:=Hz hn
 have htk:(closed zs).take (n-36)=zs:=by
  unfold closed
  rw [List.append_assoc,List.take_left' (by omega)]
 have HZ:=Hz (show Rd w (some ⟨b,o,none⟩) (n-36) c (u8n zs) from by have:=hR.take (k:=n-36) (by omega);rw [show (u8n (closed zs)).take (n-36)=u8n ((closed zs).take (n-36)) from by simp [u8n]] at this;rwa [htk] at this)
 have HS:=Hz (fun w' (hb:Below w.heap.size w w')=>sealed_any (some ⟨b,o,none⟩) (n-36) c zs w' (hT.below hb hT.1) (HZ.out.below hb) hz (by omega))
 have HQ:=Hz (fun w' (hb:Below w.heap.size w w') (B:Option Addr) (m d:Nat) (hB:Rd w' B m d (u8n (closed zs)))=>equal_any (some ⟨b,o,none⟩) B n m c d (closed zs) (closed zs) w' (hR.below hb) hB (closed_lt hz) (closed_lt hz))
 rw [decide_eq_true rfl] at HQ
 have HCY:=Hz (fun w' (hb:Below w.heap.size w w') (B:Option Addr) (d:Nat) (hP:Rd w' B 2 d (u8n [76,73]))=>cut_yes b o (n-36) c B d zs w' (HZ.out.below hb) hz hP h2 ht)
 have hd8:∀u ∈ nl (zs.drop 2),0≤u∧u≤255:=by
  intro u hu
  simp only [nl,List.mem_map] at hu
  obtain⟨q,hq,rfl⟩:=hu
  have:=hz q (List.mem_of_mem_drop hq)
  omega
 have HRA:=Hz (fun w' (A:Option Addr) (m k:Nat) (h:Rd w' A m k (u8n (zs.drop 2)))=>(hen▸read_any A m k (nl (zs.drop 2)) w' (by rw [←nl_u8s];exact h) hd8 (by have:=Rd.nats h;simp at this;omega) r1 r2 r3 r4 r5 r6 r7 r8))
 have h36 : ¬(n:Int)<36:=by omega
 have g0:(0:Int)≤(n:Int)-36:=by omega
 have g1:(n:Int)-36≤(c:Int):=by omega
 have g2:((n:Int)-36).toNat=n-36:=by omega
 have kc:=fun (w:World) (C:Array Value) (n c:Nat)=>Lib.run_convert_bytes_const (P:=Tryz.prog) w 52 5 C n c Tryz.underlying52 Tryz.underlying5
 clear hT hR hn htk ht hz r1 r2 r3 r4 r5 r6 r7 r8 hd8
 go_enter Tryz.func126,Tryz.ntmps126
 go_wp2_with fail
 refine (HS.out _ HL0.out).mono ?_
 rintro e w2 ⟨B,m,d,rfl,ho2,hb2⟩
 have HL2:=Hz (HL0.out.trans (hb2.mono (by simp)))
 have HB2:=Hz (HB0.out.below hb2)
 have HO2:=Hz (Rd.own ho2)
 clear ho2 hb2 HL0 HB0
 go_wp2_with fail
 refine (HQ.out _ HL2.out B m d HO2.out).mono ?_
 rintro e w3 ⟨rfl,rfl⟩
 go_wp2_with fail
 have HL3:=Hz (HL2.out.alloc HL2.out.size (.cells #[.int .u8 76,.int .u8 73] 5 (2,3)))
 have HB3:=Hz (HB2.out.alloc (.cells #[.int .u8 76,.int .u8 73] 5 (2,3)))
 refine (HCY.out _ HL3.out (some ⟨w2.heap.size,0,none⟩) 2 (CrcD.Rd.cells w2 [76,73] 5 (m:=(2,3)) rfl (by omega))).mono ?_
 rintro e w4 ⟨A4,m4,k4,rfl,hr4,rfl⟩
 have HR4:=Hz hr4
 clear hr4
 go_wp2_with fail
 refine (HRA.out _ A4 m4 k4 HR4.out).mono ?_
 rintro e w5 ⟨B5,m5,d5,rfl,hr5,hb5,hq5⟩
 have HL5:=Hz (HL3.out.trans (hb5.mono HL3.out.size))
 have HB5:=Hz (HB3.out.below hb5)
 have HR5:=Hz hr5
 have HN5:=Hz (show 0<m5→∀b o,B5=some ⟨b,o,none⟩→¬b=w.heap.size from fun h b o hA hb=>by have:=hq5 h b o hA;have h3:=HB3.out.lt;omega)
 clear hr5 hb5 hq5 HR4 HL3 HB3 HO2
 have HL6:=Hz (HL5.out.alloc HL5.out.size (.cells #[.int .i64 v1,.int .i64 v2,.int .i64 v3,.int .i64 v4,.int .i64 v5,.int .i64 v6,.int .i64 v7,.slice B5 m5 d5] 54))
 have HB6:=Hz (HB5.out.alloc (.cells #[.int .i64 v1,.int .i64 v2,.int .i64 v3,.int .i64 v4,.int .i64 v5,.int .i64 v6,.int .i64 v7,.slice B5 m5 d5] 54))
 go_wp2_with (refine wpList_store_blk rfl 54 (.tmp 2) (.tmp 41) rfl w.heap.size rfl zeroI rfl HB6.out rfl size_image zero_one ?_;intro w11 hB11 ho11)
 have k0:=hB11.out.cell (i:=0) rfl
 have k1:=hB11.out.cell (i:=1) rfl
 have k2:=hB11.out.cell (i:=2) rfl
 have k3:=hB11.out.cell (i:=3) rfl
 have k4:=hB11.out.cell (i:=4) rfl
 have k5:=hB11.out.cell (i:=5) rfl
 have k6:=hB11.out.cell (i:=6) rfl
 have k7:=hB11.out.cell (i:=7) rfl
 refine bodyPost_ret (v:=.tuple #[.agg #[.int .i64 0,.int .i64 0,.int .i64 0,.int .i64 0,.int .i64 0,.int .i64 0,.int .i64 0,.slice none 0 0],.int .i64 2]) (by simp [results,Tryz.results126,go_sem,k0,k1,k2,k3,k4,k5,k6,k7]) rfl ?_
 exact⟨rfl,ho11.out.below HL6.out (Nat.le_refl _) HL6.out.size⟩
theorem get_form (A:Option Addr) (n c:Nat) (zs:List Nat) (w:World) (hT:Tab w) (hR:Rd w A n c (u8n (closed zs))) (hz:by256 zs) (hm:zs.length≤1000) (ht:zs.take 2≠[76,73]) :
 Calls Tryz.prog 126 #[.slice A n c] w (Gt w zeroV 2):=by
 have hn:(closed zs).length=n:=Rd.nats hR
 rw [closed_len] at hn
 have hc:=hR.le
 have hc2:=hR.cap
 obtain⟨b,o,rfl,_,_⟩:=hR.2.2.2 (by omega)
 have HB0:=Hz (own0 w)
 have HL0:=Hz ((Below.refl w.heap.size w).alloc (Nat.le_refl _) (.cells #[.int .i64 0,.int .i64 0,.int .i64 0,.int .i64 0,.int .i64 0,.int .i64 0,.int .i64 0,.slice none 0 0] 54))
 have HN:=Hz hn
 have htk:(closed zs).take (n-36)=zs:=by
  unfold closed
  rw [List.append_assoc,List.take_left' (by omega)]
 have HZ:=Hz (show Rd w (some ⟨b,o,none⟩) (n-36) c (u8n zs) from by have:=hR.take (k:=n-36) (by omega);rw [show (u8n (closed zs)).take (n-36)=u8n ((closed zs).take (n-36)) from by simp [u8n]] at this;rwa [htk] at this)
 have HS:=Hz (fun w' (hb:Below w.heap.size w w')=>sealed_any (some ⟨b,o,none⟩) (n-36) c zs w' (hT.below hb hT.1) (HZ.out.below hb) hz (by omega))
 have HQ:=Hz (fun w' (hb:Below w.heap.size w w') (B:Option Addr) (m d:Nat) (hB:Rd w' B m d (u8n (closed zs)))=>equal_any (some ⟨b,o,none⟩) B n m c d (closed zs) (closed zs) w' (hR.below hb) hB (closed_lt hz) (closed_lt hz))
 rw [decide_eq_true rfl] at HQ
 have HCY:=Hz (fun w' (hb:Below w.heap.size w w') (B:Option Addr) (d:Nat) (hP:Rd w' B 2 d (u8n [76,73]))=>cut_no b o (n-36) c B d zs w' (HZ.out.below hb) hz hP ht)
 have h36 : ¬(n:Int)<36:=by omega
 have g0:(0:Int)≤(n:Int)-36:=by omega
 have g1:(n:Int)-36≤(c:Int):=by omega
 have g2:((n:Int)-36).toNat=n-36:=by omega
 have kc:=fun (w:World) (C:Array Value) (n c:Nat)=>Lib.run_convert_bytes_const (P:=Tryz.prog) w 52 5 C n c Tryz.underlying52 Tryz.underlying5
 clear hT hR hn htk ht hz
 go_enter Tryz.func126,Tryz.ntmps126
 go_wp2_with fail
 refine (HS.out _ HL0.out).mono ?_
 rintro e w2 ⟨B,m,d,rfl,ho2,hb2⟩
 have HL2:=Hz (HL0.out.trans (hb2.mono (by simp)))
 have HB2:=Hz (HB0.out.below hb2)
 have HO2:=Hz (Rd.own ho2)
 clear ho2 hb2 HL0 HB0
 go_wp2_with fail
 refine (HQ.out _ HL2.out B m d HO2.out).mono ?_
 rintro e w3 ⟨rfl,rfl⟩
 go_wp2_with fail
 have HL3:=Hz (HL2.out.alloc HL2.out.size (.cells #[.int .u8 76,.int .u8 73] 5 (2,3)))
 have HB3:=Hz (HB2.out.alloc (.cells #[.int .u8 76,.int .u8 73] 5 (2,3)))
 refine (HCY.out _ HL3.out (some ⟨w2.heap.size,0,none⟩) 2 (CrcD.Rd.cells w2 [76,73] 5 (m:=(2,3)) rfl (by omega))).mono ?_
 rintro e w4 ⟨rfl,rfl⟩
 clear HB2 HO2
 go_wp2_with (refine wpList_store_blk rfl 54 (.tmp 2) (.tmp 33) rfl w.heap.size rfl zeroI rfl HB3.out rfl size_image zero_one ?_;intro w11 hB11 ho11)
 have k0:=hB11.out.cell (i:=0) rfl
 have k1:=hB11.out.cell (i:=1) rfl
 have k2:=hB11.out.cell (i:=2) rfl
 have k3:=hB11.out.cell (i:=3) rfl
 have k4:=hB11.out.cell (i:=4) rfl
 have k5:=hB11.out.cell (i:=5) rfl
 have k6:=hB11.out.cell (i:=6) rfl
 have k7:=hB11.out.cell (i:=7) rfl
 refine bodyPost_ret (v:=.tuple #[.agg #[.int .i64 0,.int .i64 0,.int .i64 0,.int .i64 0,.int .i64 0,.int .i64 0,.int .i64 0,.slice none 0 0],.int .i64 2]) (by simp [results,Tryz.results126,go_sem,k0,k1,k2,k3,k4,k5,k6,k7]) rfl ?_
 exact⟨rfl,ho11.out.below HL3.out (Nat.le_refl _) HL3.out.size⟩
theorem get_range (A:Option Addr) (n c:Nat) (zs:List Nat) (w:World) (hT:Tab w) (hR:Rd w A n c (u8n (closed zs))) (hz:by256 zs) (h2:2≤zs.length) (hm:zs.length≤1000) (ht:zs.take 2=[76,73])
 {v1 v2 v3 v4 v5 v6 v7 e1 e2 e3 e4 e5 e6 e7 e8:Int} {x1 x2 x3 x4 x5 x6 x7 x8 cs:List Int}
 (r1:TabR.rdN 1 (nl (zs.drop 2)) 0=(v1,x1,e1)) (r2:TabR.rdN 2 x1 e1=(v2,x2,e2)) (r3:TabR.rdN 2 x2 e2=(v3,x3,e3)) (r4:TabR.rdN 1 x3 e3=(v4,x4,e4)) (r5:TabR.rdN 1 x4 e4=(v5,x5,e5)) (r6:TabR.rdN 1 x5 e5=(v6,x6,e6)) (r7:TabR.rdN 1 x6 e6=(v7,x7,e7)) (r8:TxtR.rtx x7 e7=(cs,x8,e8))
 (hen:TabR.endN x8 e8=0) {xs:List Nat} (hcs:cs=nl xs) (hri:∀A c,¬right ⟨v1,v2,v3,v4,v5,v6,v7,A,xs.length,c,xs⟩) (hxs:xs.length≤100000):Calls Tryz.prog 126 #[.slice A n c] w (Gt w zeroV 3):=by
 have hn:(closed zs).length=n:=Rd.nats hR
 rw [closed_len] at hn
 have hc:=hR.le
 have hc2:=hR.cap
 obtain⟨b,o,rfl,_,_⟩:=hR.2.2.2 (by omega)
 have HB0:=Hz (own0 w)
 have HL0:=Hz ((Below.refl w.heap.size w).alloc (Nat.le_refl _) (.cells #[.int .i64 0,.int .i64 0,.int .i64 0,.int .i64 0,.int .i64 0,.int .i64 0,.int .i64 0,.slice none 0 0] 54))
 have HN:=Hz hn
 have htk:(closed zs).take (n-36)=zs:=by
  unfold closed
  rw [List.append_assoc,List.take_left' (by omega)]
 have HZ:=Hz (show Rd w (some ⟨b,o,none⟩) (n-36) c (u8n zs) from by have:=hR.take (k:=n-36) (by omega);rw [show (u8n (closed zs)).take (n-36)=u8n ((closed zs).take (n-36)) from by simp [u8n]] at this;rwa [htk] at this)
 have HS:=Hz (fun w' (hb:Below w.heap.size w w')=>sealed_any (some ⟨b,o,none⟩) (n-36) c zs w' (hT.below hb hT.1) (HZ.out.below hb) hz (by omega))
 have HQ:=Hz (fun w' (hb:Below w.heap.size w w') (B:Option Addr) (m d:Nat) (hB:Rd w' B m d (u8n (closed zs)))=>equal_any (some ⟨b,o,none⟩) B n m c d (closed zs) (closed zs) w' (hR.below hb) hB (closed_lt hz) (closed_lt hz))
 rw [decide_eq_true rfl] at HQ
 have HCY:=Hz (fun w' (hb:Below w.heap.size w w') (B:Option Addr) (d:Nat) (hP:Rd w' B 2 d (u8n [76,73]))=>cut_yes b o (n-36) c B d zs w' (HZ.out.below hb) hz hP h2 ht)
 have hd8:∀u ∈ nl (zs.drop 2),0≤u∧u≤255:=by
  intro u hu
  simp only [nl,List.mem_map] at hu
  obtain⟨q,hq,rfl⟩:=hu
  have:=hz q (List.mem_of_mem_drop hq)
  omega
 have HRA:=Hz (fun w' (A:Option Addr) (m k:Nat) (h:Rd w' A m k (u8n (zs.drop 2)))=>(hen▸read_any A m k (nl (zs.drop 2)) w' (by rw [←nl_u8s];exact h) hd8 (by have:=Rd.nats h;simp at this;omega) r1 r2 r3 r4 r5 r6 r7 r8))
 have HRI:=Hz hri
 have h36 : ¬(n:Int)<36:=by omega
 have g0:(0:Int)≤(n:Int)-36:=by omega
 have g1:(n:Int)-36≤(c:Int):=by omega
 have g2:((n:Int)-36).toNat=n-36:=by omega
 have kc:=fun (w:World) (C:Array Value) (n c:Nat)=>Lib.run_convert_bytes_const (P:=Tryz.prog) w 52 5 C n c Tryz.underlying52 Tryz.underlying5
 clear hT hR hn htk ht hz r1 r2 r3 r4 r5 r6 r7 r8 hd8 hri
 go_enter Tryz.func126,Tryz.ntmps126
 go_wp2_with fail
 refine (HS.out _ HL0.out).mono ?_
 rintro e w2 ⟨B,m,d,rfl,ho2,hb2⟩
 have HL2:=Hz (HL0.out.trans (hb2.mono (by simp)))
 have HB2:=Hz (HB0.out.below hb2)
 have HO2:=Hz (Rd.own ho2)
 clear ho2 hb2 HL0 HB0
 go_wp2_with fail
 refine (HQ.out _ HL2.out B m d HO2.out).mono ?_
 rintro e w3 ⟨rfl,rfl⟩
 go_wp2_with fail
 have HL3:=Hz (HL2.out.alloc HL2.out.size (.cells #[.int .u8 76,.int .u8 73] 5 (2,3)))
 have HB3:=Hz (HB2.out.alloc (.cells #[.int .u8 76,.int .u8 73] 5 (2,3)))
 refine (HCY.out _ HL3.out (some ⟨w2.heap.size,0,none⟩) 2 (CrcD.Rd.cells w2 [76,73] 5 (m:=(2,3)) rfl (by omega))).mono ?_
 rintro e w4 ⟨A4,m4,k4,rfl,hr4,rfl⟩
 have HR4:=Hz hr4
 clear hr4
 go_wp2_with fail
 refine (HRA.out _ A4 m4 k4 HR4.out).mono ?_
 rintro e w5 ⟨B5,m5,d5,rfl,hr5,hb5,hq5⟩
 have HL5:=Hz (HL3.out.trans (hb5.mono HL3.out.size))
 have HB5:=Hz (HB3.out.below hb5)
 have HR5:=Hz hr5
 have HN5:=Hz (show 0<m5→∀b o,B5=some ⟨b,o,none⟩→¬b=w.heap.size from fun h b o hA hb=>by have:=hq5 h b o hA;have h3:=HB3.out.lt;omega)
 clear hr5 hb5 hq5 HR4 HL3 HB3 HO2
 have hr5:=HR5.out
 rw [hcs,←nl_u8s] at hr5
 obtain rfl:xs.length=m5:=Rd.nats hr5
 replace HR5:=Hz hr5
 have HG:=Hz (fun w'=>right_any ⟨v1,v2,v3,v4,v5,v6,v7,B5,xs.length,d5,xs⟩ w' (by show xs.length≤_;omega) false (by simpa using HRI.out B5 d5))
 clear hr5 HRI hcs
 go_wp2_with fail
 have HX6:=Hz (Blk.new w5 54 [.int .i64 v1,.int .i64 v2,.int .i64 v3,.int .i64 v4,.int .i64 v5,.int .i64 v6,.int .i64 v7,.slice B5 xs.length d5])
 have HL6:=Hz (HL5.out.alloc HL5.out.size (.cells #[.int .i64 v1,.int .i64 v2,.int .i64 v3,.int .i64 v4,.int .i64 v5,.int .i64 v6,.int .i64 v7,.slice B5 xs.length d5] 54))
 have HB6:=Hz (HB5.out.alloc (.cells #[.int .i64 v1,.int .i64 v2,.int .i64 v3,.int .i64 v4,.int .i64 v5,.int .i64 v6,.int .i64 v7,.slice B5 xs.length d5] 54))
 have HR6:=Hz (HR5.out.alloc (.cells #[.int .i64 v1,.int .i64 v2,.int .i64 v3,.int .i64 v4,.int .i64 v5,.int .i64 v6,.int .i64 v7,.slice B5 xs.length d5] 54))
 obtain⟨w6,hw6⟩:∃w6,w6=w5.alloc (.cells #[.int .i64 v1,.int .i64 v2,.int .i64 v3,.int .i64 v4,.int .i64 v5,.int .i64 v6,.int .i64 v7,.slice B5 xs.length d5] 54):=⟨_,rfl⟩
 replace HX6:=Hz (show Blk w6 w5.heap.size 54 [.int .i64 v1,.int .i64 v2,.int .i64 v3,.int .i64 v4,.int .i64 v5,.int .i64 v6,.int .i64 v7,.slice B5 xs.length d5] from by rw [hw6];exact HX6.out)
 rw [←hw6] at HL6 HB6 HR6 ⊢
 clear hw6
 refine (HG.out _).mono ?_
 rintro e w7 ⟨rfl,hb7⟩
 have HX7:=Hz (HX6.out.below hb7)
 have HL7:=Hz (HL6.out.trans (hb7.mono HL6.out.size))
 have HB7:=Hz (HB6.out.below hb7)
 have HR7:=Hz (HR6.out.below hb7)
 clear hb7 HX6 HL6 HB6 HR6
 have y0:=HX7.out.cell (i:=0) rfl
 have y1:=HX7.out.cell (i:=1) rfl
 have y2:=HX7.out.cell (i:=2) rfl
 have y3:=HX7.out.cell (i:=3) rfl
 have y4:=HX7.out.cell (i:=4) rfl
 have y5:=HX7.out.cell (i:=5) rfl
 have y6:=HX7.out.cell (i:=6) rfl
 have y7:=HX7.out.cell (i:=7) rfl
 go_wp2_with (refine wpList_store_blk rfl 54 (.tmp 2) (.tmp 46) rfl w.heap.size rfl zeroI rfl HB7.out rfl size_image zero_one ?_;intro w11 hB11 ho11)
 have k0:=hB11.out.cell (i:=0) rfl
 have k1:=hB11.out.cell (i:=1) rfl
 have k2:=hB11.out.cell (i:=2) rfl
 have k3:=hB11.out.cell (i:=3) rfl
 have k4:=hB11.out.cell (i:=4) rfl
 have k5:=hB11.out.cell (i:=5) rfl
 have k6:=hB11.out.cell (i:=6) rfl
 have k7:=hB11.out.cell (i:=7) rfl
 refine bodyPost_ret (v:=.tuple #[.agg #[.int .i64 0,.int .i64 0,.int .i64 0,.int .i64 0,.int .i64 0,.int .i64 0,.int .i64 0,.slice none 0 0],.int .i64 3]) (by simp [results,Tryz.results126,go_sem,k0,k1,k2,k3,k4,k5,k6,k7]) rfl ?_
 exact⟨rfl,ho11.out.below HL7.out (Nat.le_refl _) HL7.out.size⟩
def Gi (w:World) (i:Ig) (e:Ending) (w':World):Prop:=∃B m d,e=.returned (.tuple #[.agg #[.int .i64 i.p,.int .i64 i.v,.int .i64 i.h,.int .i64 i.m,.int .i64 i.f,.int .i64 i.s,.int .i64 i.r,.slice B m d],.int .i64 i.e])∧Rd w' B m d (u8n i.xs)∧Below w.heap.size w w'
theorem Gt.gi {w w':World} {x:Int} {e:Ending} (h:Gt w zeroV x e w'):Gi w (Ig.no x) e w':=⟨none,0,0,h.1,Rd.nil w',h.2⟩
theorem get_any (A:Option Addr) (n c:Nat) (ys:List Nat) (w:World) (hT:Tab w) (hR:Rd w A n c (u8n ys)) (hx:by256 ys) (hm:n≤1000):Calls Tryz.prog 126 #[.slice A n c] w (Gi w (iG ys)):=by
 have hn:ys.length=n:=Rd.nats hR
 unfold iG
 by_cases h1:ys.length<36
 ·rw [if_pos h1]
  exact (get_short A n c w (by omega)).mono fun _ _ h=>Gt.gi h
 rw [if_neg h1]
 by_cases h2:ys≠closed (ys.take (ys.length-36))
 ·rw [if_pos h2]
  exact (get_bad A n c ys w hT hR hx (by omega) (by omega) (by rw [←hn];exact h2)).mono fun _ _ h=>Gt.gi h
 rw [if_neg h2]
 have h2':ys=closed (ys.take (ys.length-36)):=Classical.byContradiction h2
 obtain⟨zs,hzs⟩:∃zs,zs=ys.take (ys.length-36):=⟨_,rfl⟩
 rw [←hzs] at h2' ⊢
 have hz:by256 zs:=fun u hu=>hx u (by rw [hzs] at hu;exact List.mem_of_mem_take hu)
 have hzl:zs.length≤1000:=by rw [hzs,List.length_take];omega
 have hR':Rd w A n c (u8n (closed zs)):=by rw [←h2'];exact hR
 by_cases h3:zs.take 2≠[76,73]
 ·rw [if_pos h3]
  exact (get_form A n c zs w hT hR' hz hzl h3).mono fun _ _ h=>Gt.gi h
 rw [if_neg h3]
 have h3':zs.take 2=[76,73]:=Classical.byContradiction h3
 have hz2:2≤zs.length:=by
  have:=congrArg List.length h3'
  rw [List.length_take] at this
  have e:([76,73]:List Nat).length=2:=rfl
  omega
 have hzd:by256 (zs.drop 2):=fun u hu=>hz u (List.mem_of_mem_drop hu)
 obtain⟨d,hd⟩:∃d,d=zs.drop 2:=⟨_,rfl⟩
 rw [←hd] at hzd ⊢
 have r1:TabR.rdN 1 (nl (zs.drop 2)) 0=((q1 d).1,(q1 d).2.1,(q1 d).2.2):=by rw [←hd];rfl
 have he:=rdI_e d
 by_cases h4:(rdI d).e≠0
 ·rw [if_pos h4]
  rcases he with e0|e0|e0
  ·exact absurd e0 h4
  ·rw [e0]
   exact (get_cut A n c zs w hT hR' hz hz2 hzl h3' r1 (show TabR.rdN 2 (q1 d).2.1 (q1 d).2.2=((q2 d).1,(q2 d).2.1,(q2 d).2.2) from rfl) (show TabR.rdN 2 (q2 d).2.1 (q2 d).2.2=((q3 d).1,(q3 d).2.1,(q3 d).2.2) from rfl) (show TabR.rdN 1 (q3 d).2.1 (q3 d).2.2=((q4 d).1,(q4 d).2.1,(q4 d).2.2) from rfl) (show TabR.rdN 1 (q4 d).2.1 (q4 d).2.2=((q5 d).1,(q5 d).2.1,(q5 d).2.2) from rfl) (show TabR.rdN 1 (q5 d).2.1 (q5 d).2.2=((q6 d).1,(q6 d).2.1,(q6 d).2.2) from rfl) (show TabR.rdN 1 (q6 d).2.1 (q6 d).2.2=((q7 d).1,(q7 d).2.1,(q7 d).2.2) from rfl) (show TxtR.rtx (q7 d).2.1 (q7 d).2.2=((q8 d).1,(q8 d).2.1,(q8 d).2.2) from rfl) e0).mono fun _ _ h=>Gt.gi h
  ·rw [e0]
   exact (get_left A n c zs w hT hR' hz hz2 hzl h3' r1 (show TabR.rdN 2 (q1 d).2.1 (q1 d).2.2=((q2 d).1,(q2 d).2.1,(q2 d).2.2) from rfl) (show TabR.rdN 2 (q2 d).2.1 (q2 d).2.2=((q3 d).1,(q3 d).2.1,(q3 d).2.2) from rfl) (show TabR.rdN 1 (q3 d).2.1 (q3 d).2.2=((q4 d).1,(q4 d).2.1,(q4 d).2.2) from rfl) (show TabR.rdN 1 (q4 d).2.1 (q4 d).2.2=((q5 d).1,(q5 d).2.1,(q5 d).2.2) from rfl) (show TabR.rdN 1 (q5 d).2.1 (q5 d).2.2=((q6 d).1,(q6 d).2.1,(q6 d).2.2) from rfl) (show TabR.rdN 1 (q6 d).2.1 (q6 d).2.2=((q7 d).1,(q7 d).2.1,(q7 d).2.2) from rfl) (show TxtR.rtx (q7 d).2.1 (q7 d).2.2=((q8 d).1,(q8 d).2.1,(q8 d).2.2) from rfl) e0).mono fun _ _ h=>Gt.gi h
 rw [if_neg h4]
 have e0:TabR.endN (q8 d).2.1 (q8 d).2.2=0:=Classical.byContradiction h4
 have hcl:(rdI d).xs.length≤1000:=by
  show ((q8 d).1.map Int.toNat).length≤1000
  rw [List.length_map]
  exact Nat.le_trans (q8_len d) (by rw [hd,List.length_drop];omega)
 by_cases h5:(rdI d).right
 ·rw [if_pos h5]
  refine (get_ok A n c zs w hT hR' hz hz2 hzl h3' r1 (show TabR.rdN 2 (q1 d).2.1 (q1 d).2.2=((q2 d).1,(q2 d).2.1,(q2 d).2.2) from rfl) (show TabR.rdN 2 (q2 d).2.1 (q2 d).2.2=((q3 d).1,(q3 d).2.1,(q3 d).2.2) from rfl) (show TabR.rdN 1 (q3 d).2.1 (q3 d).2.2=((q4 d).1,(q4 d).2.1,(q4 d).2.2) from rfl) (show TabR.rdN 1 (q4 d).2.1 (q4 d).2.2=((q5 d).1,(q5 d).2.1,(q5 d).2.2) from rfl) (show TabR.rdN 1 (q5 d).2.1 (q5 d).2.2=((q6 d).1,(q6 d).2.1,(q6 d).2.2) from rfl) (show TabR.rdN 1 (q6 d).2.1 (q6 d).2.2=((q7 d).1,(q7 d).2.1,(q7 d).2.2) from rfl) (show TxtR.rtx (q7 d).2.1 (q7 d).2.2=((q8 d).1,(q8 d).2.1,(q8 d).2.2) from rfl) e0 (q8_nl hzd) (fun A c=>h5) (by have:=h5.2.2.2.2.2.2.2.2;exact_mod_cast this)).mono ?_
  rintro e w' ⟨B,d',⟨he,hb⟩,hr⟩
  refine⟨B,_,d',?_,hr,hb⟩
  rw [he,show (rdI d).e=0 from e0]
  rfl
 ·rw [if_neg h5]
  exact (get_range A n c zs w hT hR' hz hz2 hzl h3' r1 (show TabR.rdN 2 (q1 d).2.1 (q1 d).2.2=((q2 d).1,(q2 d).2.1,(q2 d).2.2) from rfl) (show TabR.rdN 2 (q2 d).2.1 (q2 d).2.2=((q3 d).1,(q3 d).2.1,(q3 d).2.2) from rfl) (show TabR.rdN 1 (q3 d).2.1 (q3 d).2.2=((q4 d).1,(q4 d).2.1,(q4 d).2.2) from rfl) (show TabR.rdN 1 (q4 d).2.1 (q4 d).2.2=((q5 d).1,(q5 d).2.1,(q5 d).2.2) from rfl) (show TabR.rdN 1 (q5 d).2.1 (q5 d).2.2=((q6 d).1,(q6 d).2.1,(q6 d).2.2) from rfl) (show TabR.rdN 1 (q6 d).2.1 (q6 d).2.2=((q7 d).1,(q7 d).2.1,(q7 d).2.2) from rfl) (show TxtR.rtx (q7 d).2.1 (q7 d).2.2=((q8 d).1,(q8 d).2.1,(q8 d).2.2) from rfl) e0 (q8_nl hzd) (fun A c=>h5) (by have:=hcl;exact Nat.le_trans this (by decide))).mono fun _ _ h=>Gt.gi h
end ImgU
namespace Fld
open Go.RowKit
theorem run_field_one {P:Program} {T:TypeId} {fs:Array Field} {f:Field} {k:Nat} {xs:List Value} {v:Value} (ht:P.underlying T=some (.struct fs)) (hf:fs[k]?=some f) (hd:∃d,P.underlying f.type=some (.int d)) (hv:xs[f.offset]?=some v) (w:World) :
 (Instr.field T (.agg xs.toArray) k).run P w=.ok v w:=by
 obtain⟨d,hd⟩:=hd
 simp [Instr.field,run_underlying ht,hf,part,isAgg,run_underlying hd,hv,asAgg]
end Fld
namespace StoN
open Go.RowKit Kit Byt Mem DskA DskE RecM StgM CmtM StoM StoW
open RecA (rval rcells rok sval scells sok)
open StgN (Sm DS Sgo)
open CmtN (Lm LS Lgo)
open TabA (Tri Tris Ta)
open ImgT (Ig iG)
open ImgU (Gi)
open ShaM (by256)
open ShaE (Tab)
theorem rfield (r0 r1 r2 r3 r4 r5:Int) (w:World):(Instr.field 64 (.agg #[.int .i64 r0,.int .i64 r1,.int .i64 r2,.int .i64 r3,.int .i64 r4,.int .i64 r5]) 0).run Tryz.prog w=.ok (.int .i64 r0) w∧(Instr.field 64 (.agg #[.int .i64 r0,.int .i64 r1,.int .i64 r2,.int .i64 r3,.int .i64 r4,.int .i64 r5]) 2).run Tryz.prog w=.ok (.int .i64 r2) w∧(Instr.field 64 (.agg #[.int .i64 r0,.int .i64 r1,.int .i64 r2,.int .i64 r3,.int .i64 r4,.int .i64 r5]) 3).run Tryz.prog w=.ok (.int .i64 r3) w:=
 ⟨Fld.run_field_one (xs:=[.int .i64 r0,.int .i64 r1,.int .i64 r2,.int .i64 r3,.int .i64 r4,.int .i64 r5]) Tryz.underlying64 rfl ⟨_,Tryz.underlying3⟩ rfl w,Fld.run_field_one (xs:=[.int .i64 r0,.int .i64 r1,.int .i64 r2,.int .i64 r3,.int .i64 r4,.int .i64 r5]) Tryz.underlying64 rfl ⟨_,Tryz.underlying3⟩ rfl w,Fld.run_field_one (xs:=[.int .i64 r0,.int .i64 r1,.int .i64 r2,.int .i64 r3,.int .i64 r4,.int .i64 r5]) Tryz.underlying64 rfl ⟨_,Tryz.underlying3⟩ rfl w⟩
theorem other_any (c:Int) (hc:0≤c∧c≤1) (w:World):Calls Tryz.prog 71 #[.int .i64 c] w fun e w'=>e=.returned (.int .i64 (1-c))∧w=w':=by
 have e:IntKind.i64.wrap (1-c)=1-c:=by rw [IntKind.wrap_i64];omega
 go_enter Tryz.func71,Tryz.ntmps71
 go_wp2
 go_ret
 exact⟨rfl,rfl⟩
section
variable {w:World} {J:Nat→Prop} {a g:Nat} {l:Lg}
theorem tries_any (h:Lm w J a g l) (b:Bool) (hb:b=true↔l.r.a≠l.r.c) (s0 s1 d:Nat) :
 Calls Tryz.prog 78 #[pval d a s0 s1] w fun e w'=>e=.returned (.bool b)∧Below w.heap.size w w':=by
 have L0:=Hz (show Below w.heap.size w (w.alloc (.cells #[.pointer (some ⟨a,0,none⟩),.pointer (some ⟨s0,0,none⟩),.pointer (some ⟨s1,0,none⟩),.pointer (some ⟨d,0,none⟩)] 118)) from (Below.refl _ _).alloc (Nat.le_refl _) _)
 have hl:=fun w' (hb:Below w.heap.size w w')=>CmtN.latest_any J g a l w' (h.below hb)
 obtain⟨r,hr⟩:∃r,r=l.r:=⟨_,rfl⟩
 rw [←hr] at hl hb
 obtain⟨r0,r1,ra,rc,r4,r5⟩:=r
 dsimp only [rval] at hl
 have HL:=Hz hl
 clear hl
 have HB:=Hz hb
 clear h hr hb
 go_enter Tryz.func78,Tryz.ntmps78
 go_wp2_with (go_at_call 56;refine (HL.out _ L0.out).mono ?_;rintro e w1 ⟨rfl,hb1⟩;have L1:=Hz (L0.out.trans (hb1.mono L0.out.size));clear hb1)
 go_ret
 exact⟨ret_bool (by rw [Bool.eq_iff_iff,HB.out];simp),L1.out.alloc L1.out.size _⟩
theorem loaded_any (h:Lm w J a g l) (hc:0≤l.r.c∧l.r.c≤1) (s0 s1 d q:Nat) (hq:q=if l.r.c=0 then s1 else s0) :
 Calls Tryz.prog 67 #[pval d a s0 s1] w fun e w'=>e=.returned (.pointer (some ⟨q,0,none⟩))∧Below w.heap.size w w':=by
 have L0:=Hz (show Below w.heap.size w (w.alloc (.cells #[.pointer (some ⟨a,0,none⟩),.pointer (some ⟨s0,0,none⟩),.pointer (some ⟨s1,0,none⟩),.pointer (some ⟨d,0,none⟩)] 118)) from (Below.refl _ _).alloc (Nat.le_refl _) _)
 have HB0:=Hz (show Blk (w.alloc (.cells #[.pointer (some ⟨a,0,none⟩),.pointer (some ⟨s0,0,none⟩),.pointer (some ⟨s1,0,none⟩),.pointer (some ⟨d,0,none⟩)] 118)) w.heap.size 118 (pcs d a s0 s1) from Blk.new w _ _)
 have hl:=fun w' (hb:Below w.heap.size w w')=>CmtN.latest_any J g a l w' (h.below hb)
 obtain⟨r,hr⟩:∃r,r=l.r:=⟨_,rfl⟩
 rw [←hr] at hl hc hq
 obtain⟨r0,r1,ra,rc,r4,r5⟩:=r
 dsimp only [rval] at hl
 have HL:=Hz hl
 clear hl
 clear h hr
 rcases (show rc=0∨rc=1 from by have h1:=hc.1;have h2:=hc.2;simp only at h1 h2;omega) with rfl|rfl
 ·obtain rfl:q=s1:=hq
  have HO:=Hz (fun w'=>(show Calls Tryz.prog 71 #[.int .i64 0] w' fun e w''=>e=.returned (.int .i64 1)∧w'=w'' from other_any 0 hc w'))
  have hfl:=fun w=>(rfield r0 r1 ra 0 r4 r5 w).2.2
  clear hc
  go_enter Tryz.func67,Tryz.ntmps67
  go_wp2_with (first
   | (go_at_call 56;refine (HL.out _ L0.out).mono ?_;rintro e w1 ⟨rfl,hb1⟩;have L1:=Hz (L0.out.trans (hb1.mono L0.out.size));have HB1:=HB0.out.below hb1;have c2:=HB1.cell (i:=2) rfl;clear hb1 HB1)
   | (go_at_call 71;refine (HO.out _).mono ?_;rintro e w2 ⟨rfl,rfl⟩))
  go_ret
  exact⟨rfl,L1.out⟩
 ·obtain rfl:q=s0:=hq
  have HO:=Hz (fun w'=>(show Calls Tryz.prog 71 #[.int .i64 1] w' fun e w''=>e=.returned (.int .i64 0)∧w'=w'' from other_any 1 hc w'))
  have hfl:=fun w=>(rfield r0 r1 ra 1 r4 r5 w).2.2
  clear hc
  go_enter Tryz.func67,Tryz.ntmps67
  go_wp2_with (first
   | (go_at_call 56;refine (HL.out _ L0.out).mono ?_;rintro e w1 ⟨rfl,hb1⟩;have L1:=Hz (L0.out.trans (hb1.mono L0.out.size));have HB1:=HB0.out.below hb1;have c1:=HB1.cell (i:=1) rfl;clear hb1 HB1)
   | (go_at_call 71;refine (HO.out _).mono ?_;rintro e w2 ⟨rfl,rfl⟩))
  go_ret
  exact⟨rfl,L1.out⟩
end
def kim (s:St) (t:Slt):Ig:=if (pY s t).2=0 then iG (pY s t).1 else Ig.no (pY s t).2
def zim:List Value:=[.int .i64 0,.int .i64 0,.int .i64 0,.int .i64 0,.int .i64 0,.int .i64 0,.int .i64 0,.slice none 0 0]
theorem size_img8:(Tryz.prog.info? 54).map (·.size)=some 8:=by kernel_rfl
def igcs (i:Ig) (B:Option Addr) (m d:Nat):List Value:=[.int .i64 i.p,.int .i64 i.v,.int .i64 i.h,.int .i64 i.m,.int .i64 i.f,.int .i64 i.s,.int .i64 i.r,.slice B m d]
theorem one_igcs (i:Ig) (B:Option Addr) (m d:Nat):∀u ∈ igcs i B m d,u.oneCell'=true:=by intro u hu;simp [igcs] at hu;rcases hu with rfl|rfl|rfl|rfl|rfl|rfl|rfl|rfl <;> rfl
theorem rd_ne {w:World} {B:Option Addr} {m d q:Nat} {xs:List Nat} {ty:TypeId} {C:List Value} (hR:Rd w B m d (u8n xs)) (hB:Blk w q ty C) (hC:∀u ∈ C,∀x,u≠.int .u8 x) (hm:0<m):∀b o,B=some ⟨b,o,none⟩→b≠q:=by
 intro b o e1 e2
 obtain⟨b',o',hA,hb,hj⟩:=hR.2.2.2 hm
 rw [e1] at hA
 injection hA with hA
 injection hA with h1 h2
 subst h1 h2 e2
 have hl:xs.length=m:=Rd.nats hR
 have h0:(u8n xs)[0]?=some (.int .u8 ((xs[0]'(by omega):Nat):Int)):=by simp [u8n,show 0<xs.length from by omega]
 have h3:=hj 0 _ h0
 rw [Nat.add_zero,cell_of_row w b o _ _ _ hB] at h3
 have h4:C[o]?=some (.int .u8 ((xs[0]'(by omega):Nat):Int)):=by simpa using h3
 exact hC _ (List.mem_of_getElem? h4) _ rfl
theorem igcs_no (i:Ig) (B:Option Addr) (m d:Nat):∀u ∈ igcs i B m d,∀x,u≠.int .u8 x:=by
 intro u hu x e
 subst e
 simp [igcs] at hu
theorem rd_only {w w':World} {B:Option Addr} {m d q:Nat} {xs:List Nat} {ty:TypeId} {C:List Value} (hR:Rd w B m d (u8n xs)) (hB:Blk w q ty C) (hC:∀u ∈ C,∀x,u≠.int .u8 x) (ho:Only q w w'):Rd w' B m d (u8n xs):=
 (Keep.only (F:=fun i=>i=q) ho rfl).rd hR fun hm b o e=>rd_ne hR hB hC hm b o e
section
variable {w:World} {F J:Nat→Prop} {a g:Nat} {s:St} {t:Slt}
theorem image_any (h:DS w F J g a s t) (hT:Tab w) (hg:t.has=true→t.g.right) (hx:by256 (pY s t).1) (hm:(pY s t).1.length≤1000) (s0 s1 k:Nat) (hk:k=0∧a=s0∨k=1∧a=s1) :
 Calls Tryz.prog 72 #[.agg #[.pointer (some ⟨s0,0,none⟩),.pointer (some ⟨s1,0,none⟩)],.int .i64 (k:Nat)] w (Gi w (kim s t)):=by
 have HY:=Hz (fun w' (hb:Below w.heap.size w w')=>StgN.bytes_any F J g a s t w' ⟨h.dk.below hb,h.sm.below hb,h.dis,h.most,h.fits⟩ hg)
 have HT:=Hz (fun w' (hb:Below w.heap.size w w')=>hT.below hb hT.1)
 have HK:=Hz (show kim s t=if (pY s t).2=0 then iG (pY s t).1 else Ig.no (pY s t).2 from rfl)
 obtain⟨i,hi⟩:∃i,i=kim s t:=⟨_,rfl⟩
 rw [←hi] at HK ⊢
 obtain⟨ys,hys⟩:∃ys,ys=(pY s t).1:=⟨_,rfl⟩
 obtain⟨e0,he0⟩:∃e0,e0=(pY s t).2:=⟨_,rfl⟩
 rw [←hys,←he0] at HK HY
 rw [←hys] at hx hm
 have HX:=Hz hx
 have HM:=Hz hm
 have HG:=Hz (fun (A:Option Addr) (n c:Nat) (w':World) (hb:Below w.heap.size w w') (hR:Rd w' A n c (u8n ys)) (hn:n≤1000)=>ImgU.get_any A n c ys w' (HT.out w' hb) hR HX.out hn)
 clear h hT hg hi hys he0 hx hm
 obtain⟨w0,hw0⟩:∃w0,w0=(w.alloc (.cells #[.pointer (some ⟨s0,0,none⟩),.pointer (some ⟨s1,0,none⟩)] 116)).alloc (.cells zim.toArray 54):=⟨_,rfl⟩
 have L0:=Hz (show Below w.heap.size w w0 from by rw [hw0];exact ((Below.refl _ _).alloc (Nat.le_refl _) _).alloc (by rw [World.size_alloc];omega) _)
 have B0:=Hz (show Blk w0 w.heap.size 116 [.pointer (some ⟨s0,0,none⟩),.pointer (some ⟨s1,0,none⟩)] from by rw [hw0];exact (Blk.new w _ [.pointer (some ⟨s0,0,none⟩),.pointer (some ⟨s1,0,none⟩)]).alloc _)
 have B1:=Hz (show Blk w0 (w.heap.size+1) 54 zim from by
  rw [hw0]
  have:=Blk.new (w.alloc (.cells #[.pointer (some ⟨s0,0,none⟩),.pointer (some ⟨s1,0,none⟩)] 116)) 54 zim
  rw [World.size_alloc] at this
  exact this)
 have hw0':(w.alloc (.cells #[.pointer (some ⟨s0,0,none⟩),.pointer (some ⟨s1,0,none⟩)] 116)).alloc (.cells #[.int .i64 0,.int .i64 0,.int .i64 0,.int .i64 0,.int .i64 0,.int .i64 0,.int .i64 0,.slice none 0 0] 54)=w0:=hw0.symm
 clear hw0
 have c0:w0.cell? ⟨w.heap.size,k,none⟩=some (.pointer (some ⟨a,0,none⟩)):=by
  rcases hk with⟨rfl,rfl⟩|⟨rfl,rfl⟩
  ·exact B0.out.cell rfl
  ·exact B0.out.cell rfl
 have hk1:k<2:=by omega
 clear hk
 by_cases h0:e0=0
 ·have HI:=Hz (show i=iG ys from by rw [HK.out,if_pos h0])
  subst h0
  rw [HI.out]
  obtain⟨x,hxx⟩:∃x,x=iG ys:=⟨_,rfl⟩
  rw [←hxx] at HG ⊢
  clear hxx
  go_enter Tryz.func72,Tryz.ntmps72
  go_wp2_with (first
   | (go_at_call 125;refine (HY.out _ L0.out).mono ?_;rintro e w1 ⟨B,m,d,rfl,hR,hb1⟩;have L1:=Hz (L0.out.trans (hb1.mono L0.out.size));have HR:=Hz hR;have HMM:=Hz (show m≤1000 from (by have:=Rd.nats hR;have:=HM.out;omega));have B2:=Hz (B1.out.below hb1);clear hb1 hR)
   | (go_at_call 126;refine (HG.out B m d w1 L1.out HR.out HMM.out).mono ?_;rintro e w2 ⟨B3,m3,d3,rfl,hR3,hb3⟩;have L2:=Hz (L1.out.trans (hb3.mono L1.out.size));have HR3:=Hz hR3;have B4:=Hz (B2.out.below hb3);clear hb3 hR3)
   | (refine wpList_store_blk rfl 54 (.tmp 4) (.tmp 21) rfl (w.heap.size+1) rfl (igcs x B3 m3 d3) rfl B4.out rfl size_img8 (one_igcs _ _ _ _) ?_;intro w5 hB5 ho5))
  have q0:=hB5.out.cell (i:=0) rfl
  have q1:=hB5.out.cell (i:=1) rfl
  have q2:=hB5.out.cell (i:=2) rfl
  have q3:=hB5.out.cell (i:=3) rfl
  have q4:=hB5.out.cell (i:=4) rfl
  have q5:=hB5.out.cell (i:=5) rfl
  have q6:=hB5.out.cell (i:=6) rfl
  have q7:=hB5.out.cell (i:=7) rfl
  refine bodyPost_ret (v:=.tuple #[.agg #[.int .i64 x.p,.int .i64 x.v,.int .i64 x.h,.int .i64 x.m,.int .i64 x.f,.int .i64 x.s,.int .i64 x.r,.slice B3 m3 d3],.int .i64 x.e]) (by simp [results,Tryz.results72,go_sem,q0,q1,q2,q3,q4,q5,q6,q7]) rfl ?_
  have hs2:=L2.out.size
  exact⟨B3,m3,d3,rfl,rd_only HR3.out B4.out (igcs_no (Ig.no 0) none 0 0) ho5.out,ho5.out.below L2.out (by omega) hs2⟩
 ·have HI:=Hz (show i=Ig.no e0 from by rw [HK.out,if_neg h0])
  rw [HI.out]
  clear HG HM HX
  go_enter Tryz.func72,Tryz.ntmps72
  go_wp2_with (first
   | (go_at_call 125;refine (HY.out _ L0.out).mono ?_;rintro e w1 ⟨B,m,d,rfl,hR,hb1⟩;have L1:=Hz (L0.out.trans (hb1.mono L0.out.size));have B2:=Hz (B1.out.below hb1);clear hb1 hR)
   | (refine wpList_store_blk rfl 54 (.tmp 4) (.tmp 17) rfl (w.heap.size+1) rfl zim rfl B2.out rfl size_img8 (one_igcs (Ig.no 0) none 0 0) ?_;intro w5 hB5 ho5))
  have q0:=hB5.out.cell (i:=0) rfl
  have q1:=hB5.out.cell (i:=1) rfl
  have q2:=hB5.out.cell (i:=2) rfl
  have q3:=hB5.out.cell (i:=3) rfl
  have q4:=hB5.out.cell (i:=4) rfl
  have q5:=hB5.out.cell (i:=5) rfl
  have q6:=hB5.out.cell (i:=6) rfl
  have q7:=hB5.out.cell (i:=7) rfl
  refine bodyPost_ret (v:=.tuple #[.agg #[.int .i64 0,.int .i64 0,.int .i64 0,.int .i64 0,.int .i64 0,.int .i64 0,.int .i64 0,.slice none 0 0],.int .i64 e0]) (by simp [results,Tryz.results72,go_sem,q0,q1,q2,q3,q4,q5,q6,q7]) rfl ?_
  have hs1:=L1.out.size
  exact⟨none,0,0,rfl,Rd.nil _,ho5.out.below L1.out (by omega) hs1⟩
end
end StoN
end Go.Proofs.YtkepomnbhnnliaaGreatDoor
