/- Parts of the proof, each under the conditions that it names. -/
import Derived.Test.YtpidbddllnidhaaGreatDoorO15
import Derived.Test.YtpidbddllnidhaaGreatDoorO16
import Derived.RangeFuncBox
set_option maxRecDepth 100000
set_option maxHeartbeats 12800000
namespace Go.Proofs.YtpidbddllnidhaaGreatDoor
open Go.RowKit
namespace RecG
open RecM RecA
theorem right6 (p q a c l t:Int) (w:World) (s0:inn p 0 3=true) (s1:inn q 1 4294967295=true) (s2:inn a 0 1=true) (s3:inn c 0 1=true) (s4:inn l 0 (most a c)=true) (s5:inn t 0 3=true) (ha:a=0∨a=1) (hc:c=0∨c=1):Calls Tryz.prog 124 #[rval ⟨p,q,a,c,l,t⟩] w (Yes w (bits .and .i64 t (need a c)==0)):=by
 have HX:=Hz (Bx.new w 66 (rcells ⟨p,q,a,c,l,t⟩))
 have HMA:=Hz (fun w'=>U6 p q a c l t w')
 have W0:=Hz (fun w1=>within_eq s0 w1)
 have W1:=Hz (fun w1=>within_eq s1 w1)
 have W2:=Hz (fun w1=>within_eq s2 w1)
 have W3:=Hz (fun w1=>within_eq s3 w1)
 have W4:=Hz (fun w1=>within_eq s4 w1)
 have W5:=Hz (fun w1=>within_eq s5 w1)
 obtain⟨M,hM⟩:∃M,M=most a c:=⟨_,rfl⟩
 rw [←hM] at HMA W4
 have HND:=Hz (fun w'=>qwc p q a c l t w' ha hc)
 obtain⟨D,hD⟩:∃D,D=need a c:=⟨_,rfl⟩
 rw [←hD] at HND
 have HRES:=Hz (show bits .and .i64 t (need a c)=bits .and .i64 t D from by rw [←hD])
 clear hD ha hc
 clear hM s0 s1 s2 s3 s4 s5
 show Calls _ _ #[.agg #[.int .i64 p,.int .i64 q,.int .i64 a,.int .i64 c,.int .i64 l,.int .i64 t]] w _
 go_enter Tryz.func124,Tryz.ntmps124
 go_wp2_with fail
 have HX2:Hid (Bx w w.heap.size 66 (rcells ⟨p,q,a,c,l,t⟩) (w.alloc (.cells #[.int .i64 p,.int .i64 q,.int .i64 a,.int .i64 c,.int .i64 l,.int .i64 t] 66))):=HX
 generalize w.alloc (.cells #[.int .i64 p,.int .i64 q,.int .i64 a,.int .i64 c,.int .i64 l,.int .i64 t] 66)=w2 at *
 obtain⟨y0,y1,y2,y3,y4,y5⟩:=Bx.six HX2.o
 go_region_held3 (fun w'=>w'.cell? ⟨w.heap.size,0,none⟩=some (.int .i64 p)∧w'.cell? ⟨w.heap.size,1,none⟩=some (.int .i64 q)∧w'.cell? ⟨w.heap.size,2,none⟩=some (.int .i64 a)∧w'.cell? ⟨w.heap.size,3,none⟩=some (.int .i64 c)∧w'.cell? ⟨w.heap.size,4,none⟩=some (.int .i64 l)∧w'.cell? ⟨w.heap.size,5,none⟩=some (.int .i64 t))
  (first|go_keep|exact Bx.six HXb.o|exact Bx.six HXa.o)
  (first
   | (go_at_call 80;(first|(with_reducible refine (W0.o _).mono ?_)|(with_reducible refine (W1.o _).mono ?_)|(with_reducible refine (W2.o _).mono ?_)|(with_reducible refine (W3.o _).mono ?_)|(with_reducible refine (W4.o _).mono ?_)|(with_reducible refine (W5.o _).mono ?_));rintro e w' ⟨rfl,rfl⟩)
   | (go_at_call 161;refine (HND.o _).mono ?_;rintro e wn ⟨rfl,hbn⟩;have HXb:=Hz (HXa.o.step hbn);clear hbn)
   | (go_at_call 160;refine (HMA.o _).mono ?_;rintro e wn ⟨rfl,hbn⟩;have HXa:=Hz (HX2.o.step (((Mb w2.heap.size w2).drew).trans hbn));clear hbn))
 all_goals (clear y0 y1 y2 y3 y4 y5;go_wp2;go_ret;exact⟨by rw [HRES.o];rfl,HXb.o.bel⟩)
end RecG
namespace RecG
open RecM RecA
theorem right_any (r:Rc) (w:World) (b:Bool) (hb:b=true↔r.right):Calls Tryz.prog 124 #[rval r] w (Yes w b):=by
 obtain⟨p,q,a,c,l,t⟩:=r
 have HB:=Hz (show b=true↔((0≤p∧p≤3)∧(1≤q∧q≤4294967295)∧(0≤a∧a≤1)∧(0≤c∧c≤1))∧(0≤l∧l≤7)∧(0≤t∧t≤3)∧(a=c→l=0)∧¬bitOn t a∧¬bitOn t c from hb)
 clear hb
 have HX:=Hz (Bx.new w 66 (rcells ⟨p,q,a,c,l,t⟩))
 have HF:=Hz (show ∀q:Prop,(b=true→q)→¬q→b=false from fun q h hp=>by rw [Bool.eq_false_iff];exact fun hb=>hp (h hb))
 show Calls _ _ #[.agg #[.int .i64 p,.int .i64 q,.int .i64 a,.int .i64 c,.int .i64 l,.int .i64 t]] w _
 cases s0:inn p 0 3
 ·have hbf:=Hz (HF.o _ (fun h=>(HB.o.1 h).1.1) (inn_false s0))
  go_enter Tryz.func124,Tryz.ntmps124
  go_wp2_with fail
  have W0:=Hz (fun w1=>Q1 s0 w1)
  clear s0
  go_quiet ((first|(go_at_call 80;with_reducible exact Calls.quiet_of_same (W0.o _))))
  go_wp2
  go_ret
  exact⟨by rw [hbf.o];rfl,below_drewN HX.o.bel _⟩
 ·skip
  cases s1:inn q 1 4294967295
  ·have hbf:=Hz (HF.o _ (fun h=>(HB.o.1 h).1.2.1) (inn_false s1))
   go_enter Tryz.func124,Tryz.ntmps124
   go_wp2_with fail
   have W0:=Hz (fun w1=>Q1 s0 w1)
   have W1:=Hz (fun w1=>Q1 s1 w1)
   clear s0 s1
   go_quiet ((first|(go_at_call 80;with_reducible exact Calls.quiet_of_same (W0.o _))|(go_at_call 80;with_reducible exact Calls.quiet_of_same (W1.o _))))
   go_wp2
   go_ret
   exact⟨by rw [hbf.o];rfl,below_drewN HX.o.bel _⟩
  ·skip
   cases s2:inn a 0 1
   ·have hbf:=Hz (HF.o _ (fun h=>(HB.o.1 h).1.2.2.1) (inn_false s2))
    go_enter Tryz.func124,Tryz.ntmps124
    go_wp2_with fail
    have W0:=Hz (fun w1=>Q1 s0 w1)
    have W1:=Hz (fun w1=>Q1 s1 w1)
    have W2:=Hz (fun w1=>Q1 s2 w1)
    clear s0 s1 s2
    go_quiet ((first|(go_at_call 80;with_reducible exact Calls.quiet_of_same (W0.o _))|(go_at_call 80;with_reducible exact Calls.quiet_of_same (W1.o _))|(go_at_call 80;with_reducible exact Calls.quiet_of_same (W2.o _))))
    go_wp2
    go_ret
    exact⟨by rw [hbf.o];rfl,below_drewN HX.o.bel _⟩
   ·skip
    cases s3:inn c 0 1
    ·have hbf:=Hz (HF.o _ (fun h=>(HB.o.1 h).1.2.2.2) (inn_false s3))
     go_enter Tryz.func124,Tryz.ntmps124
     go_wp2_with fail
     have W0:=Hz (fun w1=>Q1 s0 w1)
     have W1:=Hz (fun w1=>Q1 s1 w1)
     have W2:=Hz (fun w1=>Q1 s2 w1)
     have W3:=Hz (fun w1=>Q1 s3 w1)
     clear s0 s1 s2 s3
     go_quiet ((first|(go_at_call 80;with_reducible exact Calls.quiet_of_same (W0.o _))|(go_at_call 80;with_reducible exact Calls.quiet_of_same (W1.o _))|(go_at_call 80;with_reducible exact Calls.quiet_of_same (W2.o _))|(go_at_call 80;with_reducible exact Calls.quiet_of_same (W3.o _))))
     go_wp2
     go_ret
     exact⟨by rw [hbf.o];rfl,below_drewN HX.o.bel _⟩
    ·skip
     have HA:=Hz (show a=0∨a=1 from by have:=inn_true s2;omega)
     have HC:=Hz (show c=0∨c=1 from by have:=inn_true s3;omega)
     have H4:=Hz (⟨inn_true s0,inn_true s1,inn_true s2,inn_true s3⟩:(0≤p∧p≤3)∧(1≤q∧q≤4294967295)∧(0≤a∧a≤1)∧(0≤c∧c≤1))
     obtain⟨M,hM⟩:∃M,M=most a c:=⟨_,rfl⟩
     have HM:=Hz hM
     have HL:=Hz (show (inn l 0 M=true)↔((0≤l∧l≤7)∧(a=c→l=0)) from by
      have h2:=HM.o
      unfold most at h2
      unfold inn
      rw [decide_eq_true_eq]
      split at h2
      ·rename_i e
       exact⟨fun h=>⟨by omega,fun _=>by omega⟩,fun h=>by have:=h.2 e;omega⟩
      ·rename_i e
       exact⟨fun h=>⟨by omega,fun h=>absurd h e⟩,fun h=>by omega⟩)
     cases s4:inn l 0 M
     ·rw [HF.o _ (fun h=>HL.o.2 ⟨(HB.o.1 h).2.1,(HB.o.1 h).2.2.2.1⟩) (by rw [s4];simp)]
      exact right4 p q a c l t w s0 s1 s2 s3 (HM.o▸s4)
     ·cases s5:inn t 0 3
      ·rw [HF.o _ (fun h=>(HB.o.1 h).2.2.1) (inn_false s5)]
       exact right5 p q a c l t w s0 s1 s2 s3 (HM.o▸s4) s5
      ·have hbt:b=(bits .and .i64 t (need a c)==0):=by
        rw [Bool.eq_iff_iff,HB.o,qwd (inn_true s5) HA.o HC.o]
        exact⟨fun h=>h.2.2.2.2,fun h=>⟨H4.o,(HL.o.1 s4).1,inn_true s5,(HL.o.1 s4).2,h⟩⟩
       rw [hbt]
       exact right6 p q a c l t w s0 s1 s2 s3 (HM.o▸s4) s5 HA.o HC.o
end RecG
namespace RecN
open Kit Byt Mem RecM RecA RecC RecG RecI RecJ RecK RecL
theorem mark_r:marks { data:=#[76,67] } 67:=rfl
theorem mark_s:marks { data:=#[76,83] } 83:=rfl
theorem Yq:(Tryz.prog.info? 66).map (·.size)=some 6:=by kernel_rfl
theorem Jl:(Tryz.prog.info? 103).map (·.size)=some 3:=by kernel_rfl
theorem one_r (r:Rc):∀u ∈ rcells r,u.oneCell'=true:=by intro u hu;simp [rcells] at hu;rcases hu with rfl|rfl|rfl|rfl|rfl|rfl <;> rfl
theorem one_s (g:Sg):∀u ∈ scells g,u.oneCell'=true:=by intro u hu;simp [scells] at hu;rcases hu with rfl|rfl|rfl <;> rfl
def rF (r:Rc):List (Nat×Int):=[(1,r.p),(4,r.q),(1,r.a),(1,r.c),(1,r.l),(1,r.b)]
def sF (g:Sg):List (Nat×Int):=[(2,g.s),(2,g.z),(2,g.h)]
theorem rF_told (r:Rc):r.bytes=[76,67]++told (rF r):=by simp [told,rF,Rc.bytes]
theorem sF_told (g:Sg):g.bytes=[76,83]++told (sF g):=by simp [told,sF,Sg.bytes]
theorem rF_len (r:Rc):(told (rF r)).length=9:=by have h:=r.bytes_len;rw [rF_told,Ma] at h;simp at h;omega
theorem sF_len (g:Sg):(told (sF g)).length=6:=by have h:=g.bytes_len;rw [sF_told,Ma] at h;simp at h;omega
def Puts (w:World) (xs:List Nat) (e:Ending) (w':World):Prop:=∃B m d,e=.returned (.tuple #[.slice B m d,.int .i64 0])∧w'.ownsRow w.heap.size 5 1 (.slice B m d) m (u8n xs)∧Bw w w'
def Gets (w:World) (v:Value) (x:Int) (e:Ending) (w':World):Prop:=e=.returned (.tuple #[v,.int .i64 x])∧Bw w w'
theorem rput_no (r:Rc) (w:World) (_hk:rok r) (hr : ¬r.right):Calls Tryz.prog 82 #[rval r] w (Gets w (.slice none 0 0) 3):=by
 have HR:=Hz (fun w'=>right_any r w' false (by simpa using hr))
 have HX:=Hz (Bx.new w 66 (rcells r))
 clear hr _hk
 obtain⟨p,q,a,c,l,t⟩:=r
 show Calls _ _ #[.agg #[.int .i64 p,.int .i64 q,.int .i64 a,.int .i64 c,.int .i64 l,.int .i64 t]] w _
 go_enter Tryz.func82,Tryz.ntmps82
 go_wp2_with fail
 refine (HR.o _).mono ?_
 rintro e w1 ⟨rfl,hb1⟩
 have HX1:=Hz (HX.o.step hb1)
 clear hb1 HX
 go_wp2
 go_ret2
 exact⟨rfl,HX1.o.bel⟩
theorem qqo (r:Rc) (w:World) (_hk:rok r) (hr:r.right):Calls Tryz.prog 82 #[rval r] w (Puts w (shut r.bytes)):=by
 have HR:=Hz (fun w'=>right_any r w' true (by simpa using hr))
 have HX:=Hz (Bx.new w 66 (rcells r))
 have HT:=Hz (rF_told r)
 have HL:=Hz (rF_len r)
 have HS:=Hz (fun g gb t' t2 w'=>sector_any { data:=#[76,67] } 67 mark_r (by omega) (rF r) g gb 6 t' t2 w' rfl (by omega) (by omega))
 clear hr _hk
 obtain⟨p,q,a,c,l,t⟩:=r
 show Calls _ _ #[.agg #[.int .i64 p,.int .i64 q,.int .i64 a,.int .i64 c,.int .i64 l,.int .i64 t]] w _
 go_enter Tryz.func82,Tryz.ntmps82
 go_wp2_with fail
 refine (HR.o _).mono ?_
 rintro e w1 ⟨rfl,hb1⟩
 have HX1:=Hz (HX.o.step hb1)
 clear hb1 HX
 go_wp2_with fail
 refine (ofRecord_any w.heap.size w1).mono ?_
 rintro e w2 ⟨rfl,hb2⟩
 have HX2:=Hz (HX1.o.step hb2)
 have hs2:=HX2.o.bel.size
 clear hb2 HX1
 go_wp2_with (refine Qq rfl 194 (.tmp 4) (.tmp 8) rfl w2.heap.size rfl (fcells w.heap.size rws) rfl (Blk.new w2 194 [.pointer none,.int .i64 0,.pointer none,.int .i64 0,.pointer none,.int .i64 0,.pointer none,.int .i64 0,.pointer none,.int .i64 0,.pointer none,.int .i64 0]) (by rw [Q4];rfl) (by rw [Q4];exact L9) (fcells_one _ _) ?_;intro w3 hB3 ho3)
 have HL3:=Hz (show Bw w2 w3 from ho3.o.below ((Mb _ _).alloc (Mr _) _) (Mr _) (by simp))
 have HX3:=Hz (HX2.o.step HL3.o)
 refine (HS.o w.heap.size w2.heap.size _ _ w3 hB3.o HX3.o.blk (by have:=HL.o;omega) _ HT.o).mono ?_
 rintro e w4 ⟨B,k,d,rfl,hown,hb4⟩
 have HO4:=Hz (own_mono hown HX3.o.bel.size)
 have HL4:=Hz (HX3.o.bel.trans (hb4.mono HX3.o.bel.size))
 clear hown hb4
 go_wp2
 go_ret2
 exact⟨B,k,d,rfl,HO4.o,HL4.o⟩
theorem qwj (A:Option Addr) (n c:Nat) (xs:List Nat) (w:World) (hR:Rd w A n c (u8n xs)) (hb:byt xs) :
 Calls Tryz.prog 154 #[.slice A n c] w (Gets w (rval (getR xs).1) (getR xs).2):=by
 have HR:=Hz hR
 have HBY:=Hz hb
 have HL0:=Hz (fun g gb t' t2 (V:List Int) w' (h:Rd w' A n c (u8n xs)) (hV:V.length=6)=>G7 A n c xs { data:=#[76,67] } 67 rws V g gb 6 11 t' t2 w' h hb mark_r (by omega) rfl hV (by omega) (by omega) (by intro x hx;simp [rws] at hx;omega) rfl (by omega))
 have hB0:=Blk.new w 66 (rcells Rc.none)
 have hl0:Bw w (w.alloc (.cells (rcells Rc.none).toArray 66)):=(Mb _ _).alloc (Mr _) _
 have hB1:=Blk.new (w.alloc (.cells (rcells Rc.none).toArray 66)) 66 (rcells Rc.none)
 have hs1:(w.alloc (.cells (rcells Rc.none).toArray 66)).heap.size=w.heap.size+1:=by simp
 rw [hs1] at hB1
 have hB0':=hB0.alloc (.cells (rcells Rc.none).toArray 66)
 have hl1:Bw w ((w.alloc (.cells (rcells Rc.none).toArray 66)).alloc (.cells (rcells Rc.none).toArray 66)):=hl0.alloc (by rw [hs1];omega) _
 have H0:=Hz hB0'
 have H1:=Hz hB1
 have HL1:=Hz hl1
 obtain⟨x,hx⟩:∃x,x=wrong 67 11 xs:=⟨_,rfl⟩
 have HXW:=Hz hx
 rw [←hx] at HL0
 clear hB0 hB0' hB1 hl0 hl1 hs1 hR hb hx
 obtain⟨w1,hw1⟩:∃w1,w1=((w.alloc (.cells (rcells Rc.none).toArray 66)).alloc (.cells (rcells Rc.none).toArray 66)):=⟨_,rfl⟩
 rw [←hw1] at H0 H1 HL1
 have hw1':((w.alloc (.cells #[.int .i64 0,.int .i64 0,.int .i64 0,.int .i64 0,.int .i64 0,.int .i64 0] 66)).alloc (.cells #[.int .i64 0,.int .i64 0,.int .i64 0,.int .i64 0,.int .i64 0,.int .i64 0] 66))=w1:=hw1.symm
 have HW1:=Hz hw1'
 clear hw1 hw1'
 go_enter Tryz.func154,Tryz.ntmps154
 go_wp2_with fail
 rw [HW1.o]
 clear HW1
 refine (ofRecord_any (w.heap.size+1) w1).mono ?_
 rintro e w2 ⟨rfl,hb2⟩
 have H02:=Hz (H0.o.below hb2)
 have H12:=Hz (H1.o.below hb2)
 have HL2:=Hz (HL1.o.trans (hb2.mono HL1.o.size))
 have hs2:=HL2.o.size
 have hg1:=H12.o.lt
 clear hb2 H0 H1 HL1
 go_wp2_with (refine Qq rfl 194 (.tmp 5) (.tmp 7) rfl w2.heap.size rfl (fcells (w.heap.size+1) rws) rfl (Blk.new w2 194 [.pointer none,.int .i64 0,.pointer none,.int .i64 0,.pointer none,.int .i64 0,.pointer none,.int .i64 0,.pointer none,.int .i64 0,.pointer none,.int .i64 0]) (by rw [Q4];rfl) (by rw [Q4];exact L9) (fcells_one _ _) ?_;intro w3 hB3 ho3)
 have hl3:Bw w2 w3:=ho3.o.below ((Mb _ _).alloc (Mr _) _) (Mr _) (by simp)
 have H03:=Hz (H02.o.below hl3)
 have H13:=Hz (H12.o.below hl3)
 have HL3:=Hz (HL2.o.trans (hl3.mono hs2))
 clear hl3 ho3 H02 H12 HL2
 refine (HL0.o (w.heap.size+1) w2.heap.size _ _ [0,0,0,0,0,0] w3 (HR.o.below HL3.o) rfl hB3.o H13.o (by omega)).mono ?_
 rintro e w4 ⟨rfl,hy,hno,hk4⟩
 have H04:=Hz (hk4.blk H03.o (by show ¬w.heap.size=w.heap.size+1;omega))
 have HL4:=Hz (show Bw w w4 from HL3.o.trans (hk4.below (B:=w.heap.size) (fun k hk=>by rw [show k=w.heap.size+1 from hk];omega) HL3.o.size))
 have HY:=Hz hy
 clear hy hno hk4 hB3 H03 H13 HL3 HL0
 by_cases hx0:x=0
 ·subst hx0
  have H14:=Hz (show Blk w4 (w.heap.size+1) 66 (rcells (rcOf xs)) from by rw [←qwg];exact HY.o rfl)
  have HG:=Hz (show getR xs=if (rcOf xs).right then (rcOf xs,0) else (Rc.none,3) from by unfold getR;rw [←HXW.o,if_neg (by simp)])
  have HK:=Hz (trivial)
  obtain⟨br,hbr⟩:=Q2 (rcOf xs).right
  have HBR:=Hz hbr
  clear hbr HY
  go_wp2_with (refine Qj rfl 66 _ rfl (w.heap.size+1) rfl H14.o Tryz.underlying66 rfl Yq ?_)
  refine (right_any (rcOf xs) _ br HBR.o).mono ?_
  rintro e w8 ⟨rfl,hb8⟩
  have H08:=Hz (H04.o.below hb8)
  have H18:=Hz (H14.o.below hb8)
  have HL8:=Hz (HL4.o.trans (hb8.mono HL4.o.size))
  clear hb8 H04 H14 HL4
  cases br
  ·have hG:getR xs=(Rc.none,3):=by rw [HG.o,if_neg (fun h=>by have:=HBR.o.2 h;cases this)]
   go_wp2_with (refine Qq rfl 66 (.tmp 2) (.tmp 18) rfl w.heap.size rfl (rcells Rc.none) rfl H08.o rfl Yq (one_r _) ?_;intro w9 hB9 ho9)
   have e0:=hB9.o.cell (i:=0) rfl
   have e1:=hB9.o.cell (i:=1) rfl
   have e2:=hB9.o.cell (i:=2) rfl
   have e3:=hB9.o.cell (i:=3) rfl
   have e4:=hB9.o.cell (i:=4) rfl
   have e5:=hB9.o.cell (i:=5) rfl
   refine bodyPost_ret (v:=.tuple #[rval Rc.none,.int .i64 3]) (by simp [results,Tryz.results154,go_sem,e0,e1,e2,e3,e4,e5]) rfl ?_
   exact⟨by rw [hG],ho9.o.below HL8.o (Mr _) HL8.o.size⟩
  ·have hG:getR xs=(rcOf xs,0):=by rw [HG.o,if_pos (HBR.o.1 rfl)]
   go_wp2_with (first
    | (refine Qj rfl 66 _ rfl (w.heap.size+1) rfl H18.o Tryz.underlying66 rfl Yq ?_)
    | (refine Qq rfl 66 (.tmp 2) (.tmp 19) rfl w.heap.size rfl (rcells (rcOf xs)) rfl H08.o rfl Yq (one_r _) ?_;intro w9 hB9 ho9))
   have e0:=hB9.o.cell (i:=0) rfl
   have e1:=hB9.o.cell (i:=1) rfl
   have e2:=hB9.o.cell (i:=2) rfl
   have e3:=hB9.o.cell (i:=3) rfl
   have e4:=hB9.o.cell (i:=4) rfl
   have e5:=hB9.o.cell (i:=5) rfl
   refine bodyPost_ret (v:=.tuple #[rval (rcOf xs),.int .i64 0]) (by simp [results,Tryz.results154,go_sem,rcOf,e0,e1,e2,e3,e4,e5]) rfl ?_
   exact⟨by rw [hG],ho9.o.below HL8.o (Mr _) HL8.o.size⟩
 ·have HG:=Hz (show getR xs=(Rc.none,x) from by unfold getR;rw [←HXW.o,if_pos hx0])
  have hxb:(x != 0)=true:=by simpa using hx0
  go_wp2_with (refine Qq rfl 66 (.tmp 2) (.tmp 13) rfl w.heap.size rfl (rcells Rc.none) rfl H04.o rfl Yq (one_r _) ?_;intro w9 hB9 ho9)
  have e0:=hB9.o.cell (i:=0) rfl
  have e1:=hB9.o.cell (i:=1) rfl
  have e2:=hB9.o.cell (i:=2) rfl
  have e3:=hB9.o.cell (i:=3) rfl
  have e4:=hB9.o.cell (i:=4) rfl
  have e5:=hB9.o.cell (i:=5) rfl
  refine bodyPost_ret (v:=.tuple #[rval Rc.none,.int .i64 x]) (by simp [results,Tryz.results154,go_sem,e0,e1,e2,e3,e4,e5]) rfl ?_
  exact⟨by rw [HG.o],ho9.o.below HL4.o (Mr _) HL4.o.size⟩
theorem sput_no (r:Sg) (w:World) (hk:sok r) (hr : ¬r.right):Calls Tryz.prog 97 #[sval r] w (Gets w (.slice none 0 0) 3):=by
 have HR:=Hz (fun w'=>rights_any r w' hk false (by simpa using hr))
 have HX:=Hz (Bx.new w 103 (scells r))
 clear hr hk
 obtain⟨s,z,h⟩:=r
 show Calls _ _ #[.agg #[.int .i64 s,.int .i64 z,.int .i64 h]] w _
 go_enter Tryz.func97,Tryz.ntmps97
 go_wp2_with fail
 refine (HR.o _).mono ?_
 rintro e w1 ⟨rfl,hb1⟩
 have HX1:=Hz (HX.o.step hb1)
 clear hb1 HX
 go_wp2
 go_ret2
 exact⟨rfl,HX1.o.bel⟩
theorem qwk (r:Sg) (w:World) (hk:sok r) (hr:r.right):Calls Tryz.prog 97 #[sval r] w (Puts w (shut r.bytes)):=by
 have HR:=Hz (fun w'=>rights_any r w' hk true (by simpa using hr))
 have HX:=Hz (Bx.new w 103 (scells r))
 have HT:=Hz (sF_told r)
 have HL:=Hz (sF_len r)
 have HS:=Hz (fun g gb t' t2 w'=>sector_any { data:=#[76,83] } 83 mark_s (by omega) (sF r) g gb 3 t' t2 w' rfl (by omega) (by omega))
 clear hr hk
 obtain⟨s,z,h⟩:=r
 show Calls _ _ #[.agg #[.int .i64 s,.int .i64 z,.int .i64 h]] w _
 go_enter Tryz.func97,Tryz.ntmps97
 go_wp2_with fail
 refine (HR.o _).mono ?_
 rintro e w1 ⟨rfl,hb1⟩
 have HX1:=Hz (HX.o.step hb1)
 clear hb1 HX
 go_wp2_with fail
 refine (ofStage_any w.heap.size w1).mono ?_
 rintro e w2 ⟨rfl,hb2⟩
 have HX2:=Hz (HX1.o.step hb2)
 have hs2:=HX2.o.bel.size
 clear hb2 HX1
 go_wp2_with (refine Qq rfl 214 (.tmp 4) (.tmp 8) rfl w2.heap.size rfl (fcells w.heap.size sws) rfl (Blk.new w2 214 [.pointer none,.int .i64 0,.pointer none,.int .i64 0,.pointer none,.int .i64 0]) (by rw [Q4];rfl) (by rw [Q4];exact Hj) (fcells_one _ _) ?_;intro w3 hB3 ho3)
 have HL3:=Hz (show Bw w2 w3 from ho3.o.below ((Mb _ _).alloc (Mr _) _) (Mr _) (by simp))
 have HX3:=Hz (HX2.o.step HL3.o)
 refine (HS.o w.heap.size w2.heap.size _ _ w3 hB3.o HX3.o.blk (by have:=HL.o;omega) _ HT.o).mono ?_
 rintro e w4 ⟨B,k,d,rfl,hown,hb4⟩
 have HO4:=Hz (own_mono hown HX3.o.bel.size)
 have HL4:=Hz (HX3.o.bel.trans (hb4.mono HX3.o.bel.size))
 clear hown hb4
 go_wp2
 go_ret2
 exact⟨B,k,d,rfl,HO4.o,HL4.o⟩
theorem qwl (A:Option Addr) (n c:Nat) (xs:List Nat) (w:World) (hR:Rd w A n c (u8n xs)) (hb:byt xs) :
 Calls Tryz.prog 113 #[.slice A n c] w (Gets w (sval (getS xs).1) (getS xs).2):=by
 have HR:=Hz hR
 have HBY:=Hz hb
 have HL0:=Hz (fun g gb t' t2 (V:List Int) w' (h:Rd w' A n c (u8n xs)) (hV:V.length=3)=>G7 A n c xs { data:=#[76,83] } 83 sws V g gb 3 8 t' t2 w' h hb mark_s (by omega) rfl hV (by omega) (by omega) (by intro x hx;simp [sws] at hx;omega) rfl (by omega))
 have hB0:=Blk.new w 103 (scells Sg.none)
 have hl0:Bw w (w.alloc (.cells (scells Sg.none).toArray 103)):=(Mb _ _).alloc (Mr _) _
 have hB1:=Blk.new (w.alloc (.cells (scells Sg.none).toArray 103)) 103 (scells Sg.none)
 have hs1:(w.alloc (.cells (scells Sg.none).toArray 103)).heap.size=w.heap.size+1:=by simp
 rw [hs1] at hB1
 have hB0':=hB0.alloc (.cells (scells Sg.none).toArray 103)
 have hl1:Bw w ((w.alloc (.cells (scells Sg.none).toArray 103)).alloc (.cells (scells Sg.none).toArray 103)):=hl0.alloc (by rw [hs1];omega) _
 have H0:=Hz hB0'
 have H1:=Hz hB1
 have HL1:=Hz hl1
 obtain⟨x,hx⟩:∃x,x=wrong 83 8 xs:=⟨_,rfl⟩
 have HXW:=Hz hx
 rw [←hx] at HL0
 clear hB0 hB0' hB1 hl0 hl1 hs1 hR hb hx
 obtain⟨w1,hw1⟩:∃w1,w1=((w.alloc (.cells (scells Sg.none).toArray 103)).alloc (.cells (scells Sg.none).toArray 103)):=⟨_,rfl⟩
 rw [←hw1] at H0 H1 HL1
 have hw1':((w.alloc (.cells #[.int .i64 0,.int .i64 0,.int .i64 0] 103)).alloc (.cells #[.int .i64 0,.int .i64 0,.int .i64 0] 103))=w1:=hw1.symm
 have HW1:=Hz hw1'
 clear hw1 hw1'
 go_enter Tryz.func113,Tryz.ntmps113
 go_wp2_with fail
 rw [HW1.o]
 clear HW1
 refine (ofStage_any (w.heap.size+1) w1).mono ?_
 rintro e w2 ⟨rfl,hb2⟩
 have H02:=Hz (H0.o.below hb2)
 have H12:=Hz (H1.o.below hb2)
 have HL2:=Hz (HL1.o.trans (hb2.mono HL1.o.size))
 have hs2:=HL2.o.size
 have hg1:=H12.o.lt
 clear hb2 H0 H1 HL1
 go_wp2_with (refine Qq rfl 214 (.tmp 5) (.tmp 7) rfl w2.heap.size rfl (fcells (w.heap.size+1) sws) rfl (Blk.new w2 214 [.pointer none,.int .i64 0,.pointer none,.int .i64 0,.pointer none,.int .i64 0]) (by rw [Q4];rfl) (by rw [Q4];exact Hj) (fcells_one _ _) ?_;intro w3 hB3 ho3)
 have hl3:Bw w2 w3:=ho3.o.below ((Mb _ _).alloc (Mr _) _) (Mr _) (by simp)
 have H03:=Hz (H02.o.below hl3)
 have H13:=Hz (H12.o.below hl3)
 have HL3:=Hz (HL2.o.trans (hl3.mono hs2))
 clear hl3 ho3 H02 H12 HL2
 refine (HL0.o (w.heap.size+1) w2.heap.size _ _ [0,0,0] w3 (HR.o.below HL3.o) rfl hB3.o H13.o (by omega)).mono ?_
 rintro e w4 ⟨rfl,hy,hno,hk4⟩
 have H04:=Hz (hk4.blk H03.o (by show ¬w.heap.size=w.heap.size+1;omega))
 have HL4:=Hz (show Bw w w4 from HL3.o.trans (hk4.below (B:=w.heap.size) (fun k hk=>by rw [show k=w.heap.size+1 from hk];omega) HL3.o.size))
 have HY:=Hz hy
 clear hy hno hk4 hB3 H03 H13 HL3 HL0
 by_cases hx0:x=0
 ·subst hx0
  have H14:=Hz (show Blk w4 (w.heap.size+1) 103 (scells (sgOf xs)) from by rw [←qwh];exact HY.o rfl)
  have HG:=Hz (show getS xs=if (sgOf xs).right then (sgOf xs,0) else (Sg.none,3) from by unfold getS;rw [←HXW.o,if_neg (by simp)])
  have HK:=Hz (show sok (sgOf xs) from⟨RecF.qzv HBY.o 2 2 (by omega),RecF.qzv HBY.o 4 2 (by omega),RecF.qzv HBY.o 6 2 (by omega)⟩)
  obtain⟨br,hbr⟩:=Q2 (sgOf xs).right
  have HBR:=Hz hbr
  clear hbr HY
  go_wp2_with (refine Qj rfl 103 _ rfl (w.heap.size+1) rfl H14.o Tryz.underlying103 rfl Jl ?_)
  refine (rights_any (sgOf xs) _ HK.o br HBR.o).mono ?_
  rintro e w8 ⟨rfl,hb8⟩
  have H08:=Hz (H04.o.below hb8)
  have H18:=Hz (H14.o.below hb8)
  have HL8:=Hz (HL4.o.trans (hb8.mono HL4.o.size))
  clear hb8 H04 H14 HL4
  cases br
  ·have hG:getS xs=(Sg.none,3):=by rw [HG.o,if_neg (fun h=>by have:=HBR.o.2 h;cases this)]
   go_wp2_with (refine Qq rfl 103 (.tmp 2) (.tmp 18) rfl w.heap.size rfl (scells Sg.none) rfl H08.o rfl Jl (one_s _) ?_;intro w9 hB9 ho9)
   have e0:=hB9.o.cell (i:=0) rfl
   have e1:=hB9.o.cell (i:=1) rfl
   have e2:=hB9.o.cell (i:=2) rfl
   refine bodyPost_ret (v:=.tuple #[sval Sg.none,.int .i64 3]) (by simp [results,Tryz.results113,go_sem,e0,e1,e2]) rfl ?_
   exact⟨by rw [hG],ho9.o.below HL8.o (Mr _) HL8.o.size⟩
  ·have hG:getS xs=(sgOf xs,0):=by rw [HG.o,if_pos (HBR.o.1 rfl)]
   go_wp2_with (first
    | (refine Qj rfl 103 _ rfl (w.heap.size+1) rfl H18.o Tryz.underlying103 rfl Jl ?_)
    | (refine Qq rfl 103 (.tmp 2) (.tmp 19) rfl w.heap.size rfl (scells (sgOf xs)) rfl H08.o rfl Jl (one_s _) ?_;intro w9 hB9 ho9))
   have e0:=hB9.o.cell (i:=0) rfl
   have e1:=hB9.o.cell (i:=1) rfl
   have e2:=hB9.o.cell (i:=2) rfl
   refine bodyPost_ret (v:=.tuple #[sval (sgOf xs),.int .i64 0]) (by simp [results,Tryz.results113,go_sem,sgOf,e0,e1,e2]) rfl ?_
   exact⟨by rw [hG],ho9.o.below HL8.o (Mr _) HL8.o.size⟩
 ·have HG:=Hz (show getS xs=(Sg.none,x) from by unfold getS;rw [←HXW.o,if_pos hx0])
  have hxb:(x != 0)=true:=by simpa using hx0
  go_wp2_with (refine Qq rfl 103 (.tmp 2) (.tmp 13) rfl w.heap.size rfl (scells Sg.none) rfl H04.o rfl Jl (one_s _) ?_;intro w9 hB9 ho9)
  have e0:=hB9.o.cell (i:=0) rfl
  have e1:=hB9.o.cell (i:=1) rfl
  have e2:=hB9.o.cell (i:=2) rfl
  refine bodyPost_ret (v:=.tuple #[sval Sg.none,.int .i64 x]) (by simp [results,Tryz.results113,go_sem,e0,e1,e2]) rfl ?_
  exact⟨by rw [HG.o],ho9.o.below HL4.o (Mr _) HL4.o.size⟩
end RecN
namespace PlaM
def n64 (x:Int):Prop:=-9223372036854775808≤x∧x≤9223372036854775807
theorem below_drewN {B:Nat} {w w':World} (h:Below B w w') (n:Nat):Below B w (w'.drewN n):=⟨h.os,h.tape,h.output,h.size,h.block⟩
def sec (n:Int):Int:=if n<1 then 10 else if 4<n then 40 else 10*n
def fnd (p n:Int):Int:=if p<0∨3<p then -1 else 10*p+n
def rC (p c:Int):Int:=if c=0∨c=1 then fnd p c else -1
def rS (p s:Int):Int:=if s=0 then fnd p 2 else if s=1 then fnd p 6 else -1
def rD (p s i:Int):Int:=if rS p s<0∨i<0∨2<i then -1 else rS p s+1+i
def tv (x:Int):Int:=if x<0 then 0 else x
def tb (x:Int):Bool:=decide (0≤x)
theorem rS_bd (p s:Int) : -1≤rS p s∧rS p s≤36:=by unfold rS fnd;repeat (first|split|omega)
theorem ret_i {a b:Int} (h:a=b):Ending.returned (.int .i64 a)=.returned (.int .i64 b):=by rw [h]
theorem Nv (p n:Int) (w:World) (hn:0≤n∧n≤9):Calls Tryz.prog 78 #[.int .i64 p,.int .i64 n] w fun e w'=>e=.returned (.int .i64 (fnd p n))∧w=w':=by
 by_cases h1:p<0
 ·have H:=Hz (show -1=fnd p n from by unfold fnd;rw [if_pos (Or.inl h1)])
  go_enter Tryz.func78,Tryz.ntmps78
  go_wp2
  go_ret
  exact⟨ret_i H.o,rfl⟩
 ·by_cases h4:3<p
  ·have H:=Hz (show -1=fnd p n from by unfold fnd;rw [if_pos (Or.inr h4)])
   go_enter Tryz.func78,Tryz.ntmps78
   go_wp2
   go_ret
   exact⟨ret_i H.o,rfl⟩
  ·have H:=Hz (show 10*p+n=fnd p n from by unfold fnd;rw [if_neg (by omega)])
   go_enter Tryz.func78,Tryz.ntmps78
   go_wp2
   go_ret
   exact⟨ret_i H.o,rfl⟩
end PlaM
namespace PlaM
theorem qjc (p s:Int) (w:World):Calls Tryz.prog 41 #[.int .i64 p,.int .i64 s] w fun e w'=>e=.returned (.int .i64 (rS p s))∧w=w':=by
 have F2:=Hz (fun w'=>Nv p 2 w' (by omega))
 have F6:=Hz (fun w'=>Nv p 6 w' (by omega))
 by_cases h0:s=0
 ·have H:=Hz (show fnd p 2=rS p s from by unfold rS;rw [if_pos h0])
  subst h0
  go_enter Tryz.func41,Tryz.ntmps41
  go_wp2_with (go_at_call 78;refine (F2.o _).mono ?_;rintro e w' ⟨rfl,rfl⟩)
  go_ret
  exact⟨ret_i H.o,rfl⟩
 ·by_cases h1:s=1
  ·have H:=Hz (show fnd p 6=rS p s from by unfold rS;rw [if_neg h0,if_pos h1])
   subst h1
   go_enter Tryz.func41,Tryz.ntmps41
   go_wp2_with (go_at_call 78;refine (F6.o _).mono ?_;rintro e w' ⟨rfl,rfl⟩)
   go_ret
   exact⟨ret_i H.o,rfl⟩
  ·have H:=Hz (show -1=rS p s from by unfold rS;rw [if_neg h0,if_neg h1])
   have e0:(s==0)=false:=by simpa using h0
   have e1:(s==1)=false:=by simpa using h1
   go_enter Tryz.func41,Tryz.ntmps41
   go_wp2
   go_ret
   exact⟨ret_i H.o,rfl⟩
theorem rdata_any (p s i:Int) (w:World):Calls Tryz.prog 17 #[.int .i64 p,.int .i64 s,.int .i64 i] w fun e w'=>e=.returned (.int .i64 (rD p s i))∧w=w':=by
 have HS:=Hz (fun w'=>qjc p s w')
 have hb:=rS_bd p s
 have HD:=Hz (show rD p s i=if rS p s<0∨i<0∨2<i then -1 else rS p s+1+i from rfl)
 obtain⟨x,hx⟩:∃x,x=rS p s:=⟨_,rfl⟩
 rw [←hx] at HS HD hb
 clear hx
 by_cases h0:x<0
 ·have H:=Hz (show -1=rD p s i from by rw [HD.o,if_pos (Or.inl h0)])
  go_enter Tryz.func17,Tryz.ntmps17
  go_wp2_with (go_at_call 41;refine (HS.o _).mono ?_;rintro e w' ⟨rfl,rfl⟩)
  go_ret
  exact⟨ret_i H.o,rfl⟩
 ·by_cases h1:i<0
  ·have H:=Hz (show -1=rD p s i from by rw [HD.o,if_pos (Or.inr (Or.inl h1))])
   go_enter Tryz.func17,Tryz.ntmps17
   go_wp2_with (go_at_call 41;refine (HS.o _).mono ?_;rintro e w' ⟨rfl,rfl⟩)
   go_ret
   exact⟨ret_i H.o,rfl⟩
  ·by_cases h2:2<i
   ·have H:=Hz (show -1=rD p s i from by rw [HD.o,if_pos (Or.inr (Or.inr h2))])
    go_enter Tryz.func17,Tryz.ntmps17
    go_wp2_with (go_at_call 41;refine (HS.o _).mono ?_;rintro e w' ⟨rfl,rfl⟩)
    go_ret
    exact⟨ret_i H.o,rfl⟩
   ·have H:=Hz (show x+1+i=rD p s i from by rw [HD.o,if_neg (by omega)])
    go_enter Tryz.func17,Tryz.ntmps17
    go_wp2_with (go_at_call 41;refine (HS.o _).mono ?_;rintro e w' ⟨rfl,rfl⟩)
    go_ret
    exact⟨ret_i H.o,rfl⟩
end PlaM
namespace PlaM
theorem qwm (n:Int) (w:World):Calls Tryz.prog 11 #[.int .i64 n] w fun e w'=>e=.returned (.int .i64 (sec n))∧w=w':=by
 by_cases h1:n<1
 ·have H:=Hz (show 10=sec n from by unfold sec;rw [if_pos h1])
  go_enter Tryz.func11,Tryz.ntmps11
  go_wp2
  go_ret
  exact⟨ret_i H.o,rfl⟩
 ·by_cases h4:4<n
  ·have H:=Hz (show 40=sec n from by unfold sec;rw [if_neg h1,if_pos h4])
   go_enter Tryz.func11,Tryz.ntmps11
   go_wp2
   go_ret
   exact⟨ret_i H.o,rfl⟩
  ·have H:=Hz (show 10*n=sec n from by unfold sec;rw [if_neg h1,if_neg h4])
   go_enter Tryz.func11,Tryz.ntmps11
   go_wp2
   go_ret
   exact⟨ret_i H.o,rfl⟩
end PlaM
namespace PlaN
open Kit PlaM
def bi (n:Int):Int:=if 0≤n∧n≤9 then n/4 else 0
def bf (n:Int):Int:=if 0≤n∧n≤9 then n%4*16 else 0
def bb (n:Int):Bool:=decide (0≤n∧n≤9)
def bel (n c:Int):Bool:=decide (0≤n∧n<c)
theorem below_any (n c:Int) (w:World):Calls Tryz.prog 129 #[.int .i64 n,.int .i64 c] w fun e w'=>e=.returned (.bool (bel n c))∧w=w':=by
 unfold bel
 by_cases h:0≤n
 ·go_enter Tryz.func129,Tryz.ntmps129
  go_wp2
  go_ret
  exact⟨Q3 (by simp [h]),rfl⟩
 ·have h' : ¬(0≤n):=h
  go_enter Tryz.func129,Tryz.ntmps129
  go_wp2
  go_ret
  exact⟨Q3 (by rw [Bool.eq_iff_iff];simp;omega),rfl⟩
theorem Xj {n c:Int} {b:Bool} (h:bel n c=b) (w:World):Calls Tryz.prog 129 #[.int .i64 n,.int .i64 c] w fun e w'=>e=.returned (.bool b)∧w'=w:=h▸(below_any n c w).mono fun _ _ h=>⟨h.1,h.2.symm⟩
theorem Vz {n c:Int} {b:Bool} (h:bel n c=b) (w:World):Calls Tryz.prog 129 #[.int .i64 n,.int .i64 c] w fun e w'=>e=.returned (.bool b)∧w=w':=h▸below_any n c w
def slf (s:Int):Int:=wrap64 (2+wrap64 (s*4))
theorem slot_any (s:Int) (w:World):Calls Tryz.prog 147 #[.int .i64 s] w fun e w'=>e=.returned (.int .i64 (slf s))∧w=w':=by
 unfold slf
 go_enter Tryz.func147,Tryz.ntmps147
 go_wp2
 go_ret
 exact⟨rfl,rfl⟩
theorem slot_q {s x:Int} (h:slf s=x) (w:World):Calls Tryz.prog 147 #[.int .i64 s] w fun e w'=>e=.returned (.int .i64 x)∧w'=w:=h▸(slot_any s w).mono fun _ _ h=>⟨h.1,h.2.symm⟩
theorem c1_any (c:Int) (a:Nat) (w:World) (ha:w.cell? ⟨a,0,none⟩=some (.int .i64 c)) :
 Calls Tryz.prog 128 #[.pointer (some ⟨a,0,none⟩)] w fun e w'=>e=.returned (.tuple #[.int .i64 c,.bool (bel c 2)])∧Bw w w':=by
 obtain⟨b,hb⟩:∃b,bel c 2=b:=⟨_,rfl⟩
 have W0:=Hz (fun w'=>Xj hb w')
 rw [hb]
 clear hb
 go_enter Tryz.func128,Tryz.ntmps128
 go_wp2_with (fail)
 go_quiet ((go_at_call 129;with_reducible exact Calls.quiet_of_same (W0.o _)))
 go_wp2_with (fail)
 go_ret2
 exact⟨rfl,below_drewN (Mb _ _) _⟩
theorem s1_any (s:Int) (a:Nat) (w:World) (ha:w.cell? ⟨a,0,none⟩=some (.int .i64 s)) :
 Calls Tryz.prog 146 #[.pointer (some ⟨a,0,none⟩)] w fun e w'=>e=.returned (.tuple #[.int .i64 (slf s),.bool (bel s 2)])∧Bw w w':=by
 obtain⟨b,hb⟩:∃b,bel s 2=b:=⟨_,rfl⟩
 obtain⟨x,hx⟩:∃x,slf s=x:=⟨_,rfl⟩
 have W0:=Hz (fun w'=>Xj hb w')
 have W1:=Hz (fun w'=>slot_q hx w')
 rw [hb,hx]
 clear hb hx
 go_enter Tryz.func146,Tryz.ntmps146
 go_wp2_with (fail)
 go_quiet ((first|(go_at_call 129;with_reducible exact Calls.quiet_of_same (W0.o _))|(go_at_call 147;with_reducible exact Calls.quiet_of_same (W1.o _))))
 go_wp2_with (fail)
 go_ret2
 exact⟨rfl,below_drewN (Mb _ _) _⟩
theorem d1_any (s i:Int) (a b:Nat) (w:World) (ha:w.cell? ⟨a,0,none⟩=some (.int .i64 s)) (hb:w.cell? ⟨b,0,none⟩=some (.int .i64 i)) :
 Calls Tryz.prog 165 #[.pointer (some ⟨a,0,none⟩),.pointer (some ⟨b,0,none⟩)] w fun e w'=>e=.returned (.tuple #[.int .i64 (wrap64 (wrap64 (slf s+1)+i)),.bool (bel s 2&&bel i 3)])∧Bw w w':=by
 obtain⟨x,hx⟩:∃x,slf s=x:=⟨_,rfl⟩
 have W1:=Hz (fun w'=>slot_q hx w')
 rw [hx]
 clear hx
 cases h1:bel s 2 with
 | true=>
   obtain⟨d,hd⟩:∃d,bel i 3=d:=⟨_,rfl⟩
   have W0:=Hz (fun w'=>Xj h1 w')
   have W2:=Hz (fun w'=>Xj hd w')
   rw [hd]
   clear h1 hd
   go_enter Tryz.func165,Tryz.ntmps165
   go_wp2_with (fail)
   go_quiet ((first|(go_at_call 129;with_reducible exact Calls.quiet_of_same (W0.o _))|(go_at_call 129;with_reducible exact Calls.quiet_of_same (W2.o _))|(go_at_call 147;with_reducible exact Calls.quiet_of_same (W1.o _))))
   go_wp2_with (fail)
   go_ret2
   exact⟨rfl,below_drewN (Mb _ _) _⟩
 | false=>
   have W0:=Hz (fun w'=>Xj h1 w')
   clear h1
   go_enter Tryz.func165,Tryz.ntmps165
   go_wp2_with (fail)
   go_quiet ((first|(go_at_call 129;with_reducible exact Calls.quiet_of_same (W0.o _))|(go_at_call 147;with_reducible exact Calls.quiet_of_same (W1.o _))))
   go_wp2_with (fail)
   go_ret2
   exact⟨rfl,below_drewN (Mb _ _) _⟩
theorem of_c {p v q:Int} {is:Bool} {a:Nat} (w:World) (hv:is=true→bel p 4=true→q=10*p+v∧0≤p∧p≤3∧0≤v∧v≤9) (hq:(is&&bel p 4)=false→q=0)
 (HF:Calls Tryz.prog 128 #[.pointer (some ⟨a,0,none⟩)] w fun e w'=>e=.returned (.tuple #[.int .i64 v,.bool is])∧Bw w w') :
 Calls Tryz.prog 127 #[.int .i64 p,.func (.func 128) #[] #[.pointer (some ⟨a,0,none⟩)]] w fun e w'=>e=.returned (.tuple #[.int .i64 q,.bool (is&&bel p 4)])∧Bw w w':=by
 have HF:=Hz HF
 cases is with
 | false=>
   obtain rfl:=hq rfl
   clear hv hq
   go_enter Tryz.func127,Tryz.ntmps127
   go_wp2_with (go_at_call 128;refine HF.o.mono ?_;rintro e w1 ⟨rfl,hb1⟩;have HL1:=Hz hb1;clear hb1)
   go_ret2
   exact⟨rfl,HL1.o⟩
 | true=>
   cases h:bel p 4 with
   | false=>
     obtain rfl:=hq h
     have W0:=Hz (fun w'=>Vz h w')
     clear hv hq h
     go_enter Tryz.func127,Tryz.ntmps127
     go_wp2_with (first|(go_at_call 128;refine HF.o.mono ?_;rintro e w1 ⟨rfl,hb1⟩;have HL1:=Hz hb1;clear hb1)|(go_at_call 129;refine (W0.o _).mono ?_;rintro e w' ⟨rfl,rfl⟩))
     go_ret2
     exact⟨rfl,HL1.o⟩
   | true=>
     obtain⟨rfl,hp0,hp1,hv0,hv1⟩:=hv rfl h
     have W0:=Hz (fun w'=>Vz h w')
     have HE:=Hz (show 10*p+v=p*10+v from by omega)
     clear hq h
     go_enter Tryz.func127,Tryz.ntmps127
     go_wp2_with (first|(go_at_call 128;refine HF.o.mono ?_;rintro e w1 ⟨rfl,hb1⟩;have HL1:=Hz hb1;clear hb1)|(go_at_call 129;refine (W0.o _).mono ?_;rintro e w' ⟨rfl,rfl⟩))
     go_ret2
     exact⟨by rw [HE.o];rfl,HL1.o⟩
theorem of_s {p v q:Int} {is:Bool} {a:Nat} (w:World) (hv:is=true→bel p 4=true→q=10*p+v∧0≤p∧p≤3∧0≤v∧v≤9) (hq:(is&&bel p 4)=false→q=0)
 (HF:Calls Tryz.prog 146 #[.pointer (some ⟨a,0,none⟩)] w fun e w'=>e=.returned (.tuple #[.int .i64 v,.bool is])∧Bw w w') :
 Calls Tryz.prog 127 #[.int .i64 p,.func (.func 146) #[] #[.pointer (some ⟨a,0,none⟩)]] w fun e w'=>e=.returned (.tuple #[.int .i64 q,.bool (is&&bel p 4)])∧Bw w w':=by
 have HF:=Hz HF
 cases is with
 | false=>
   obtain rfl:=hq rfl
   clear hv hq
   go_enter Tryz.func127,Tryz.ntmps127
   go_wp2_with (go_at_call 146;refine HF.o.mono ?_;rintro e w1 ⟨rfl,hb1⟩;have HL1:=Hz hb1;clear hb1)
   go_ret2
   exact⟨rfl,HL1.o⟩
 | true=>
   cases h:bel p 4 with
   | false=>
     obtain rfl:=hq h
     have W0:=Hz (fun w'=>Vz h w')
     clear hv hq h
     go_enter Tryz.func127,Tryz.ntmps127
     go_wp2_with (first|(go_at_call 146;refine HF.o.mono ?_;rintro e w1 ⟨rfl,hb1⟩;have HL1:=Hz hb1;clear hb1)|(go_at_call 129;refine (W0.o _).mono ?_;rintro e w' ⟨rfl,rfl⟩))
     go_ret2
     exact⟨rfl,HL1.o⟩
   | true=>
     obtain⟨rfl,hp0,hp1,hv0,hv1⟩:=hv rfl h
     have W0:=Hz (fun w'=>Vz h w')
     have HE:=Hz (show 10*p+v=p*10+v from by omega)
     clear hq h
     go_enter Tryz.func127,Tryz.ntmps127
     go_wp2_with (first|(go_at_call 146;refine HF.o.mono ?_;rintro e w1 ⟨rfl,hb1⟩;have HL1:=Hz hb1;clear hb1)|(go_at_call 129;refine (W0.o _).mono ?_;rintro e w' ⟨rfl,rfl⟩))
     go_ret2
     exact⟨by rw [HE.o];rfl,HL1.o⟩
theorem of_d {p v q:Int} {is:Bool} {a b:Nat} (w:World) (hv:is=true→bel p 4=true→q=10*p+v∧0≤p∧p≤3∧0≤v∧v≤9) (hq:(is&&bel p 4)=false→q=0)
 (HF:Calls Tryz.prog 165 #[.pointer (some ⟨a,0,none⟩),.pointer (some ⟨b,0,none⟩)] w fun e w'=>e=.returned (.tuple #[.int .i64 v,.bool is])∧Bw w w') :
 Calls Tryz.prog 127 #[.int .i64 p,.func (.func 165) #[] #[.pointer (some ⟨a,0,none⟩),.pointer (some ⟨b,0,none⟩)]] w fun e w'=>e=.returned (.tuple #[.int .i64 q,.bool (is&&bel p 4)])∧Bw w w':=by
 have HF:=Hz HF
 cases is with
 | false=>
   obtain rfl:=hq rfl
   clear hv hq
   go_enter Tryz.func127,Tryz.ntmps127
   go_wp2_with (go_at_call 165;refine HF.o.mono ?_;rintro e w1 ⟨rfl,hb1⟩;have HL1:=Hz hb1;clear hb1)
   go_ret2
   exact⟨rfl,HL1.o⟩
 | true=>
   cases h:bel p 4 with
   | false=>
     obtain rfl:=hq h
     have W0:=Hz (fun w'=>Vz h w')
     clear hv hq h
     go_enter Tryz.func127,Tryz.ntmps127
     go_wp2_with (first|(go_at_call 165;refine HF.o.mono ?_;rintro e w1 ⟨rfl,hb1⟩;have HL1:=Hz hb1;clear hb1)|(go_at_call 129;refine (W0.o _).mono ?_;rintro e w' ⟨rfl,rfl⟩))
     go_ret2
     exact⟨rfl,HL1.o⟩
   | true=>
     obtain⟨rfl,hp0,hp1,hv0,hv1⟩:=hv rfl h
     have W0:=Hz (fun w'=>Vz h w')
     have HE:=Hz (show 10*p+v=p*10+v from by omega)
     clear hq h
     go_enter Tryz.func127,Tryz.ntmps127
     go_wp2_with (first|(go_at_call 165;refine HF.o.mono ?_;rintro e w1 ⟨rfl,hb1⟩;have HL1:=Hz hb1;clear hb1)|(go_at_call 129;refine (W0.o _).mono ?_;rintro e w' ⟨rfl,rfl⟩))
     go_ret2
     exact⟨by rw [HE.o];rfl,HL1.o⟩
theorem hmf (fn:Fn) (first cap:Array Value) (w:World):(Instr.makeFunc fn first cap).run Tryz.prog w=.ok (.func fn first cap) w:=rfl
theorem bel_iff (n c:Int):bel n c=true↔0≤n∧n<c:=by unfold bel;simp
theorem slf_0:slf 0=2:=by unfold slf wrap64;decide
theorem slf_1:slf 1=6:=by unfold slf wrap64;decide
theorem tb_neg {x:Int} (h:x<0):tb x=false:=by unfold tb;simpa using h
theorem Nu {x:Int} (h:0≤x):tb x=true:=by unfold tb;simpa using h
theorem tv_neg {x:Int} (h:x<0):tv x=0:=by unfold tv;rw [if_pos h]
theorem Ny {x:Int} (h:0≤x):tv x=x:=by unfold tv;rw [if_neg (by omega)]
theorem tell {x p v:Int} {is:Bool} (h1:is=true→0≤p∧p<4→x=10*p+v∧0≤v∧v≤9) (h0 : ¬(is=true∧0≤p∧p<4)→x<0) :
 tb x=(is&&bel p 4)∧(is=true→bel p 4=true→tv x=10*p+v∧0≤p∧p≤3∧0≤v∧v≤9)∧((is&&bel p 4)=false→tv x=0):=by
 by_cases hy:is=true∧0≤p∧p<4
 ·obtain⟨rfl,hp⟩:=hy
  obtain⟨rfl,hv0,hv1⟩:=h1 rfl hp
  have hb:=(bel_iff p 4).mpr hp
  refine⟨by rw [hb,Nu (by omega)];rfl,fun _ _=>⟨Ny (by omega),by omega,by omega,hv0,hv1⟩,fun h=>?_⟩
  rw [hb] at h
  cases h
 ·have hx:=h0 hy
  have hn:(is&&bel p 4)=false:=by
   rw [Bool.eq_false_iff]
   intro h
   rw [Bool.and_eq_true] at h
   exact hy ⟨h.1,(bel_iff p 4).mp h.2⟩
  refine⟨by rw [hn,tb_neg hx],fun a b=>?_,fun _=>tv_neg hx⟩
  rw [a,b] at hn
  cases hn
theorem Hv (n:Int) (w:World) (_hn:n64 n):Calls Tryz.prog 62 #[.int .i64 n] w fun e w'=>e=.returned (.int .i64 (sec n))∧Bw w w':=by
 by_cases h1:n<1
 ·have H:=Hz (show 10=sec n from by unfold sec;rw [if_pos h1])
  go_enter Tryz.func62,Tryz.ntmps62
  go_wp2
  go_ret
  exact⟨ret_i H.o,Mb _ _⟩
 ·by_cases h4:4<n
  ·have H:=Hz (show 40=sec n from by unfold sec;rw [if_neg h1,if_pos h4])
   go_enter Tryz.func62,Tryz.ntmps62
   go_wp2
   go_ret
   exact⟨ret_i H.o,Mb _ _⟩
  ·have H:=Hz (show n*10=sec n from by unfold sec;rw [if_neg h1,if_neg h4];omega)
   go_enter Tryz.func62,Tryz.ntmps62
   go_wp2
   go_ret
   exact⟨ret_i H.o,Mb _ _⟩
theorem qjd (p c:Int) (w:World) (_hp:n64 p) (_hc:n64 c):Calls Tryz.prog 83 #[.int .i64 p,.int .i64 c] w fun e w'=>e=.returned (.tuple #[.int .i64 (tv (rC p c)),.bool (tb (rC p c))])∧Bw w w':=by
 obtain⟨e1,e2,e3⟩:=tell (x:=rC p c) (p:=p) (v:=c) (is:=bel c 2)
  (fun h hp=>by
    rw [bel_iff] at h
    refine⟨?_,by omega,by omega⟩
    unfold rC fnd
    rw [if_pos (by omega),if_neg (by omega)])
  (fun h=>by
    rw [bel_iff] at h
    unfold rC fnd
    repeat (first|omega|split))
 have HS:=Hz (fun w' a ha=>of_c (a:=a) w' e2 e3 (c1_any c a w' ha))
 rw [e1]
 generalize tv (rC p c)=x at *
 generalize (bel c 2&&bel p 4)=y at *
 clear e1 e2 e3
 have hmf:=hmf
 go_enter Tryz.func83,Tryz.ntmps83
 go_wp2_with (go_at_call 127;refine (HS.o _ _ (cell_of_one (heap_alloc_new w _))).mono ?_;rintro e w1 ⟨rfl,hb1⟩;have HL1:=Hz (((Mb _ _).alloc (Mr _) _).trans (hb1.mono (by simp)));clear hb1)
 go_ret2
 exact⟨rfl,HL1.o⟩
theorem qvc {s:Int} (h:bel s 2=true):(s=0∧slf s=2)∨(s=1∧slf s=6):=by
 rw [bel_iff] at h
 rcases (show s=0∨s=1 from by omega) with rfl|rfl
 ·exact .inl ⟨rfl,slf_0⟩
 ·exact .inr ⟨rfl,slf_1⟩
theorem Yj (p s:Int) (w:World) (_hp:n64 p) (_hs:n64 s):Calls Tryz.prog 98 #[.int .i64 p,.int .i64 s] w fun e w'=>e=.returned (.tuple #[.int .i64 (tv (rS p s)),.bool (tb (rS p s))])∧Bw w w':=by
 obtain⟨e1,e2,e3⟩:=tell (x:=rS p s) (p:=p) (v:=slf s) (is:=bel s 2)
  (fun h hp=>by
    rcases qvc h with⟨rfl,hq⟩|⟨rfl,hq⟩
    ·refine⟨?_,by omega,by omega⟩
     unfold rS fnd
     rw [if_pos rfl,if_neg (by omega)]
     omega
    ·refine⟨?_,by omega,by omega⟩
     unfold rS fnd
     rw [if_neg (by omega),if_pos rfl,if_neg (by omega)]
     omega)
  (fun h=>by
    rw [bel_iff] at h
    unfold rS fnd
    repeat (first|omega|split))
 have HS:=Hz (fun w' a ha=>of_s (a:=a) w' e2 e3 (s1_any s a w' ha))
 rw [e1]
 generalize tv (rS p s)=x at *
 generalize (bel s 2&&bel p 4)=y at *
 clear e1 e2 e3
 have hmf:=hmf
 go_enter Tryz.func98,Tryz.ntmps98
 go_wp2_with (go_at_call 127;refine (HS.o _ _ (cell_of_one (heap_alloc_new w _))).mono ?_;rintro e w1 ⟨rfl,hb1⟩;have HL1:=Hz (((Mb _ _).alloc (Mr _) _).trans (hb1.mono (by simp)));clear hb1)
 go_ret2
 exact⟨rfl,HL1.o⟩
theorem two_cells (w:World) (x y:Value) (t u:TypeId):((w.alloc (.cells #[x] t)).alloc (.cells #[y] u)).cell? ⟨w.heap.size,0,none⟩=some x∧((w.alloc (.cells #[x] t)).alloc (.cells #[y] u)).cell? ⟨w.heap.size+1,0,none⟩=some y:=by
 have e:(w.alloc (.cells #[x] t)).heap.size=w.heap.size+1:=by simp
 refine⟨(World.cell?_alloc_past _ _ _ (by simp)).trans (cell_of_one (heap_alloc_new w _)),?_⟩
 rw [←e]
 exact cell_of_one (heap_alloc_new _ _)
theorem G8 {n:Int} (h : -9223372036854775808≤n∧n≤9223372036854775807):wrap64 n=n:=by unfold wrap64;omega
theorem qqp (p s i:Int) (w:World) (_hp:n64 p) (_hs:n64 s) (_hi:n64 i):Calls Tryz.prog 133 #[.int .i64 p,.int .i64 s,.int .i64 i] w fun e w'=>e=.returned (.tuple #[.int .i64 (tv (rD p s i)),.bool (tb (rD p s i))])∧Bw w w':=by
 obtain⟨e1,e2,e3⟩:=tell (x:=rD p s i) (p:=p) (v:=wrap64 (wrap64 (slf s+1)+i)) (is:=(bel s 2&&bel i 3))
  (fun h hp=>by
    rw [Bool.and_eq_true,bel_iff i] at h
    obtain⟨h,hi⟩:=h
    rcases qvc h with⟨rfl,hq⟩|⟨rfl,hq⟩
    ·have e:rS p 0=10*p+2:=by
      unfold rS fnd
      rw [if_pos rfl,if_neg (by omega)]
     rw [hq,G8 (n:=2+1) (by omega),G8 (n:=2+1+i) (by omega)]
     refine⟨?_,by omega,by omega⟩
     unfold rD
     rw [e,if_neg (by omega)]
     omega
    ·have e:rS p 1=10*p+6:=by
      unfold rS fnd
      rw [if_neg (by omega),if_pos rfl,if_neg (by omega)]
     rw [hq,G8 (n:=6+1) (by omega),G8 (n:=6+1+i) (by omega)]
     refine⟨?_,by omega,by omega⟩
     unfold rD
     rw [e,if_neg (by omega)]
     omega)
  (fun h=>by
    rw [Bool.and_eq_true,bel_iff,bel_iff] at h
    by_cases hc:rS p s<0∨i<0∨2<i
    ·unfold rD
     rw [if_pos hc]
     omega
    ·exfalso
     have hq:0≤rS p s:=by omega
     refine h ⟨⟨?_,by omega⟩,?_⟩
     ·unfold rS fnd at hq
      repeat (first|omega|split at hq)
     ·unfold rS fnd at hq
      repeat (first|omega|split at hq))
 have HS:=Hz (fun w' a b ha hb=>of_d (a:=a) (b:=b) w' e2 e3 (d1_any s i a b w' ha hb))
 rw [e1]
 generalize tv (rD p s i)=x at *
 generalize ((bel s 2&&bel i 3)&&bel p 4)=y at *
 clear e1 e2 e3
 have hmf:=hmf
 have HC:=Hz (two_cells w)
 go_enter Tryz.func133,Tryz.ntmps133
 go_wp2_with (go_at_call 127;refine (HS.o _ _ _ (HC.o _ _ _ _).1 (HC.o _ _ _ _).2).mono ?_;rintro e w1 ⟨rfl,hb1⟩;have HL1:=Hz ((((Mb w.heap.size w).alloc (Mr _) _).alloc (by simp) _).trans (hb1.mono (by simp;omega)));clear hb1)
 go_ret2
 exact⟨rfl,HL1.o⟩
theorem Yz (n:Int) (w:World) (_hn:n64 n):Calls Tryz.prog 88 #[.int .i64 n] w fun e w'=>e=.returned (.tuple #[.int .i64 (bi n),.int .i64 (bf n),.bool (bb n)])∧Bw w w':=by
 by_cases h:0≤n∧n≤9
 ·have W0:=Hz (fun w'=>Vz (n:=n) (c:=10) (b:=true) ((bel_iff n 10).mpr (by omega)) w')
  have HB:=Hz (show bb n=true from by unfold bb;simpa using h)
  have H1:=Hz (show n.tdiv 4=bi n from by unfold bi;rw [if_pos h,Int.tdiv_eq_ediv_of_nonneg (by omega)])
  have H2:=Hz (show n%4*16=bf n from by unfold bf;rw [if_pos h])
  have hq2:0≤n.tdiv 4∧n.tdiv 4≤2:=by rw [Int.tdiv_eq_ediv_of_nonneg (by omega)];omega
  rw [HB.o]
  go_enter Tryz.func88,Tryz.ntmps88
  go_wp2_with (go_at_call 129;refine (W0.o _).mono ?_;rintro e w' ⟨rfl,rfl⟩)
  go_ret3
  exact⟨by rw [←H1.o,←H2.o];rfl,Mb _ _⟩
 ·have W0:=Hz (fun w'=>Vz (n:=n) (c:=10) (b:=false) (by rw [Bool.eq_false_iff];intro hh;rw [bel_iff] at hh;omega) w')
  have HB:=Hz (show bb n=false from by unfold bb;simpa using h)
  have H1:=Hz (show bi n=0 from by unfold bi;rw [if_neg h])
  have H2:=Hz (show bf n=0 from by unfold bf;rw [if_neg h])
  rw [HB.o,H1.o,H2.o]
  clear h
  go_enter Tryz.func88,Tryz.ntmps88
  go_wp2_with (go_at_call 129;refine (W0.o _).mono ?_;rintro e w' ⟨rfl,rfl⟩)
  go_ret3
  exact⟨rfl,Mb _ _⟩
end PlaN
namespace BitR
def ext (R:List (Int×Int)) (k:Int):List (Int×Int):=match R.getLast? with|some p=>if p.1+p.2=k then R.dropLast++[(p.1,p.2+1)] else R++[(k,1)]|none=>[(k,1)]
end BitR
namespace BitO
open BitM BitA BitB BitC BitR
def n64 (x:Int):Prop:=-9223372036854775808≤x∧x≤9223372036854775807
theorem and1 (n:Int):bits .and .i64 n 1=n%2:=by
 have h3:(BitVec.ofInt 64 1).toNat=2 ^ 1-1:=by decide
 have key:(BitVec.ofInt 64 n&&&BitVec.ofInt 64 1).toNat=(n%((2 ^ 64:Nat):Int)).toNat%2 ^ 1:=by
  rw [BitVec.toNat_and,BitVec.toNat_ofInt,h3,Nat.and_two_pow_sub_one_eq_mod]
 show IntKind.i64.wrap ((BitVec.ofInt 64 n&&&BitVec.ofInt 64 1).toNat:Nat)=n%2
 rw [key,Mi_]
 omega
theorem shr_has (s:Int) {k:Nat} (h:k≤15):(bits .and .i64 (s/2 ^ k) 1==1)=hb s k:=by
 rw [and1,V4 s h]
 unfold pw
 rw [show ((k:Int)).toNat=k from by omega]
 rfl
theorem wrap_pw {k:Nat} (h:k≤16):wrap64 (2 ^ k)=pw k:=by
 have hb:=pw_bd k h
 have:(2:Int) ^ k=pw k:=by unfold pw;rw [show ((k:Int)).toNat=k from by omega]
 rw [this]
 exact Ul (by omega) (by omega)
theorem or_with (s:Int) {k:Nat} (hs:n64 s) (h:k≤15):bits .or .i64 s (pw k)=wv s k:=by
 have hhf:=pw_half k h
 have hp:=V3 k
 have e2:BitVec.ofInt 64 (pw k)=BitVec.twoPow 64 k:=by
  apply BitVec.eq_of_toNat_eq
  rw [BitVec.toNat_ofInt,BitVec.toNat_twoPow]
  have e:pw k=((2 ^ k:Nat):Int):=by
   unfold pw
   rw [show ((k:Int)).toNat=k from by omega]
   simp
  rw [e]
  omega
 have ht:(BitVec.ofInt 64 s).getLsbD k=hb s k:=by
  rw [BitVec.getLsbD,BitVec.toNat_ofInt,←bit_nat _ h,V4 _ h,V4 _ h]
  have h1:=low_bit s k h
  have h2:=low_bit (((s%((2 ^ 64:Nat):Int)).toNat:Nat):Int) k h
  have h3:((((s%((2 ^ 64:Nat):Int)).toNat:Nat):Int))%65536=s%65536:=by omega
  rw [h3] at h2
  rw [←h2,h1]
 show IntKind.i64.wrap ((BitVec.ofInt 64 s ||| BitVec.ofInt 64 (pw k)).toNat:Nat)=wv s k
 unfold wv
 by_cases hc:hb s k=true
 ·rw [if_neg (by rw [hc];simp)]
  have:BitVec.ofInt 64 s ||| BitVec.ofInt 64 (pw k)=BitVec.ofInt 64 s:=by
   rw [e2]
   ext i hi
   rw [BitVec.getElem_or,BitVec.getElem_twoPow]
   by_cases hik:i=k
   ·subst hik
    have:(BitVec.ofInt 64 s)[i]=true:=by rw [←BitVec.getLsbD_eq_getElem,ht,hc]
    simp [this]
   ·simp [hik]
  rw [this,BitVec.toNat_ofInt,Mi_]
  have:=hs.1
  have:=hs.2
  omega
 ·have hf:hb s k=false:=by simpa using hc
  rw [if_pos ⟨by omega,by omega,hf⟩]
  have h0:BitVec.ofInt 64 s&&&BitVec.ofInt 64 (pw k)=0#64:=by
   rw [e2,BitVec.and_twoPow,ht,hf]
   rfl
  rw [←BitVec.add_eq_or_of_and_eq_zero _ _ h0,←BitVec.ofInt_add,BitVec.toNat_ofInt,Mi_]
  have hr:s+pw k≤9223372036854775807:=by
   rw [V4 s h] at hf
   have h1:s/pw k%2=0:=by have:=of_decide_eq_false hf;omega
   have e:(9223372036854775808:Int)=pw k*(2*pw ((62-k:Nat):Int)):=by
    have h2:=Y4 k (1+(62-k))
    have h3:=Y4 1 (62-k)
    rw [show k+(1+(62-k))=63 from by omega] at h2
    have h4:(9223372036854775808:Int)=pw ((63:Nat):Int):=by decide
    rw [h4,h2,h3]
    rfl
   obtain⟨P,hP⟩:∃P,P=pw k:=⟨_,rfl⟩
   obtain⟨Q,hQ⟩:∃Q,Q=pw ((62-k:Nat):Int):=⟨_,rfl⟩
   rw [←hP] at h1 hp e ⊢
   rw [←hQ] at e
   have h5:s/P<2*Q:=Int.ediv_lt_of_lt_mul (by omega) (by rw [Int.mul_comm,←e];have:=hs.2;omega)
   have h6:s/P+2≤2*Q:=by omega
   have h7:=Int.lt_ediv_add_one_mul_self s (show 0<P by omega)
   have h8:=Int.mul_le_mul_of_nonneg_right h6 (show 0≤P by omega)
   rw [Int.mul_comm (2*Q) P,←e,show s/P+2=(s/P+1)+1 from by omega,Int.add_mul] at h8
   omega
  have:=hs.1
  omega
theorem hb_not (s:Int) {k:Nat} (h:k≤15):hb (-1-s) k = !hb s k:=by
 rw [V4 _ h,V4 _ h]
 have hp:=V3 k
 obtain⟨P,hP⟩:∃P,P=pw k:=⟨_,rfl⟩
 rw [←hP] at hp ⊢
 have h1:=Int.mul_ediv_add_emod s P
 have h2:=Int.emod_nonneg s (show P≠0 by omega)
 have h3:=Int.emod_lt_of_pos s (show 0<P by omega)
 have e:(-1-s)/P = -1-s/P:=by
  have e1 : -1-s=(P-1-s%P)+P*(-1-s/P):=by
   rw [Int.mul_sub,Int.mul_neg,Int.mul_one];omega
  rw [e1,Int.add_mul_ediv_left _ _ (by omega),Int.ediv_eq_zero_of_lt (by omega) (by omega)]
  omega
 rw [e,Bool.eq_iff_iff]
 simp
 omega
theorem G9 (i:Int) (w:World):Calls Tryz.prog 132 #[.int .i64 i] w fun e w'=>e=.returned (.bool (decide (0≤i∧i≤15)))∧w=w':=by
 by_cases h0:0≤i
 ·by_cases h1:i<16
  ·go_enter Tryz.func132,Tryz.ntmps132
   go_wp2
   go_ret
   exact⟨ret_b (by simp;omega),rfl⟩
  ·go_enter Tryz.func132,Tryz.ntmps132
   go_wp2
   go_ret
   exact⟨ret_b (by simp;omega),rfl⟩
 ·go_enter Tryz.func132,Tryz.ntmps132
  go_wp2
  go_ret
  exact⟨ret_b (by simp;omega),rfl⟩
theorem held_any (n:Int) (w:World):Calls Tryz.prog 211 #[.int .i64 n] w fun e w'=>e=.returned (.int .i64 (lim n:Nat))∧w=w':=by
 have hc:(n<0∧lim n=0)∨(0≤n∧n≤16∧(lim n:Nat)=n)∨(16<n∧lim n=16):=by unfold lim;repeat (first|omega|split)
 obtain⟨K,hK⟩:∃K,K=lim n:=⟨_,rfl⟩
 rw [←hK] at hc ⊢
 clear hK
 rcases hc with⟨h1,h2⟩|⟨h1,h2,h3⟩|⟨h1,h2⟩
 all_goals
  go_enter Tryz.func211,Tryz.ntmps211
  go_wp2
  go_ret
  exact⟨ret_i (by omega),rfl⟩
theorem has_any (s i:Int) (w:World):Calls Tryz.prog 87 #[.int .i64 s,.int .i64 i] w fun e w'=>e=.returned (.bool (hb s i))∧w=w':=by
 by_cases h0:0≤i∧i≤15
 ·obtain⟨k,rfl⟩:∃k:Nat,i=k:=⟨i.toNat,by omega⟩
  have HH:=Hz (shr_has s (k:=k) (by omega))
  have HM:=Hz (fun w=>G9 k w)
  rw [decide_eq_true h0] at HM
  have h1:(k:Int)≤15:=h0.2
  clear h0
  go_enter Tryz.func87,Tryz.ntmps87
  go_wp2_with (go_at_call 132;refine (HM.o _).mono ?_;rintro e w' ⟨rfl,rfl⟩)
  go_ret
  exact⟨ret_b HH.o,rfl⟩
 ·have HM:=Hz (fun w=>G9 i w)
  rw [decide_eq_false h0] at HM
  have H:=Hz (show false=hb s i from by unfold hb;symm;simp;omega)
  clear h0
  go_enter Tryz.func87,Tryz.ntmps87
  go_wp2_with (go_at_call 132;refine (HM.o _).mono ?_;rintro e w' ⟨rfl,rfl⟩)
  go_ret
  exact⟨ret_b H.o,rfl⟩
theorem qwn (s i:Int) (w:World) (hs:n64 s):Calls Tryz.prog 90 #[.int .i64 s,.int .i64 i] w fun e w'=>e=.returned (.int .i64 (wv s i))∧w=w':=by
 by_cases h0:0≤i∧i≤15
 ·obtain⟨k,rfl⟩:∃k:Nat,i=k:=⟨i.toNat,by omega⟩
  have HH:=Hz (or_with s (k:=k) hs (by omega))
  have HP:=Hz (wrap_pw (k:=k) (by omega))
  have HM:=Hz (fun w=>G9 k w)
  rw [decide_eq_true h0] at HM
  have h1:(k:Int)≤15:=h0.2
  clear h0
  go_enter Tryz.func90,Tryz.ntmps90
  go_wp2_with (go_at_call 132;refine (HM.o _).mono ?_;rintro e w' ⟨rfl,rfl⟩)
  go_ret
  exact⟨ret_i (by rw [HP.o];exact HH.o),rfl⟩
 ·have HM:=Hz (fun w=>G9 i w)
  rw [decide_eq_false h0] at HM
  have H:=Hz (show s=wv s i from by unfold wv;rw [if_neg (fun h=>h0 ⟨h.1,h.2.1⟩)])
  clear h0
  go_enter Tryz.func90,Tryz.ntmps90
  go_wp2_with (go_at_call 132;refine (HM.o _).mono ?_;rintro e w' ⟨rfl,rfl⟩)
  go_ret
  exact⟨ret_i H.o,rfl⟩
end BitO
namespace BitP
open Go.Shelf Mem BitM BitA BitO
attribute [local go_sem] Oper.semAt_some
def hv (s:Int):Nat→List Int
 | 0=>[]
 | k+1=>hv s k++(if hb s k then [(k:Int)] else [])
theorem hv_succ (s:Int) (k:Nat):hv s (k+1)=hv s k++(if hb s k then [(k:Int)] else []):=rfl
theorem hv_len (s:Int) (k:Nat):(hv s k).length≤k:=by
 induction k with
 | zero=>exact Mr _
 | succ k ih=>
   rw [hv_succ,Ma]
   split
   ·simp;omega
   ·simp;omega
theorem hv_not (s:Int) {k:Nat} (h:k≤16):hv (-1-s) k=miss s k:=by
 induction k with
 | zero=>rfl
 | succ k ih=>
   rw [hv_succ,miss,ih (by omega),hb_not s (by omega)]
   cases hb s k <;> rfl
theorem hv_pre (s:Int) (k m:Nat):hv s k <+: hv s (k+m):=by
 induction m with
 | zero=>exact List.prefix_refl _
 | succ m ih=>exact ih.trans (by rw [←Nat.add_assoc,hv_succ];exact List.prefix_append _ _)
def Kp (b1 b2:Nat) (A B:World):Prop:=B.heap[b1]?=A.heap[b1]?∧B.heap[b2]?=A.heap[b2]?
theorem Kp.refl {b1 b2:Nat} (A:World):Kp b1 b2 A A:=⟨rfl,rfl⟩
theorem Kp.t {b1 b2:Nat} {A B C:World} (h:Kp b1 b2 A B) (k:Kp b1 b2 B C):Kp b1 b2 A C:=⟨k.1.trans h.1,k.2.trans h.2⟩
theorem Kp.b {b1 b2:Nat} {w:World} (h1:b1<w.heap.size) (h2:b2<w.heap.size) (W:World) (l:Nat) (o o':Obj) (hl:w.heap.size≤l) (_:W.heap[l]?=some o) (_:o.isCells=false) (_:o.isWalk=false):Kp b1 b2 W (W.putObj l o'):=
 ⟨World.putObj_heap_other (by omega),World.putObj_heap_other (by omega)⟩
theorem J0 {B₀ Bx:Nat} {t:TypeId} {xs:List Value} {A B:World} {row:Option Nat} (h:Blk A Bx t xs) (hg:A.grownBy B row) (hr:∀r,row=some r→B₀≤r∧∃o:Obj,A.heap[r]?=some o∧o.isCells=false):Blk B Bx t xs:=
 (hg.block Bx h.lt fun he=>by
   obtain⟨_,o,ho,hc⟩:=hr Bx he.symm
   rw [show A.heap[Bx]?=some _ from h] at ho
   injection ho with ho
   subst ho
   simp [Obj.isCells] at hc).trans h
abbrev No:=Fin 16
def nv (x:No):Int:=((x.val:Nat):Int)
def vals (l:List No):List Int:=l.map nv
theorem Gh (l:List No):(vals l).length=l.length:=List.length_map ..
theorem qvd (l:List No) (x:No):vals (l++[x])=vals l++[nv x]:=by simp [vals]
def enc (x:No):Array Value:=#[.int .i64 (nv x)]
theorem qje (m:Nat) (hm:3≤m) (l Bs Bn:Nat) (s n:Int) (J Jx:List No→World→Prop)
 (hY:∀pre x W,J pre W→pre.length<16→YieldAt Fence.wide (m-1) Tryz.prog l (enc x) W fun e W'=>
   (e=.returned (.bool true)∧J (pre++[x]) W'∧Kp Bs Bn W W')∨(e=.returned (.bool false)∧Jx (pre++[x]) W'))
 (W:World) (hcs:Blk W Bs 3 [.int .i64 s]) (hcn:Blk W Bn 3 [.int .i64 n]) (h0:J [] W) :
 CallsIn Fence.wide m Tryz.prog 210 #[.func (.yield l) #[] #[],.pointer (some ⟨Bn,0,none⟩),.pointer (some ⟨Bs,0,none⟩)] W fun e W'=>(∃v,e=.returned v)∧
  ((∃ys,vals ys=hv s (lim n)∧J ys W')∨(∃pre,(∃k:Nat,k<lim n∧hb s k=true∧vals pre=hv s k++[(k:Int)])∧Jx pre W')):=by
 have HM:=Hz (fun w=>callsIn_wide (n:=m-1) |>.2 (held_any n w))
 have hl16:=lim_le n
 obtain⟨L,hL⟩:∃L,L=lim n:=⟨_,rfl⟩
 rw [←hL] at HM hl16 ⊢
 clear hL
 have cn:=hcn.cell (i:=0) rfl
 have h1m:1≤m:=by omega
 have f20:Fence.wide.fn 211:=trivial
 have f9:Fence.wide.fn 87:=trivial
 refine callsIn_of_wp Tryz.func210 rfl trivial ?_ rfl
 simp only [Tryz.ntmps210,List.size_toArray,List.length_cons,List.length_nil,Nat.reduceAdd,Nat.reduceSub,Array.replicate_succ,Array.replicate_zero,List.push_toArray,List.append_toArray,List.nil_append,List.cons_append]
 gi_wp2_with (gi_at_call 211;refine (HM.o _).mono ?_;rintro e w' ⟨rfl,rfl⟩)
 gi_loopw [7] (fun i wr=>∃(k:Nat) (pre:List No),k≤L∧i=.int .i64 (k:Int)∧Hid (vals pre=hv s k)∧J pre wr∧Kp Bs Bn W wr) (fun i _=>L-(intOf i).toNat)
 case atStart=>exact⟨0,[],Nat.zero_le _,rfl,Hz rfl,h0,Kp.refl _⟩
 case round=>
  obtain⟨k,pre,hk,rfl,HV,hJ,hkp⟩:=hrel
  have bs:Blk wr Bs 3 [.int .i64 s]:=hkp.1.trans hcs
  have cs:=bs.cell (i:=0) rfl
  have HH:=Hz (fun w=>callsIn_wide (n:=m-1) |>.2 (has_any s k w))
  have HS:=Hz (hv_succ s k)
  have hpl:pre.length≤k:=by have:=hv_len s k;rw [←HV.o,Gh] at this;exact this
  by_cases hlt:k<L
  ·cases hx:hb s k
   ·rw [hx] at HH HS
    have HX:=Hz hx
    clear hx
    gi_wp2_with (gi_at_call 87;have hq:=HH;clear HH;refine (hq.o _).mono ?_;rintro e w' ⟨rfl,rfl⟩)
    refine⟨fun f h=>by simp at h,?_⟩
    gi_wp2
    go_roundw
    case rel=>exact⟨k+1,pre,by omega,by go_num,Hz (by rw [HS.o,if_neg (by simp),List.append_nil];exact HV.o),hJ,hkp⟩
    case measure=>simp [intOf];omega
   ·rw [hx] at HH HS
    have HX:=Hz hx
    clear hx
    obtain⟨fn,tmps,assign,body,hy,hR⟩:=hY _ (⟨k,by omega⟩:No) wr hJ (by omega)
    simp only [enc,nv] at hy
    have HV1:=Hz (show vals (pre++[(⟨k,by omega⟩:No)])=hv s k++[(k:Int)] from by rw [qvd,HV.o];rfl)
    gi_wp2_with (gi_at_call 87;refine (HH.o _).mono ?_;rintro e w' ⟨rfl,rfl⟩)
    refine hR.mono ?_
    rintro e W3 (⟨rfl,hJ3,hk3⟩|⟨rfl,hJx3⟩)
    ·gi_wp2
     go_roundw
     case rel=>exact⟨k+1,_,by omega,by go_num,Hz (by rw [HS.o,if_pos trivial];exact HV1.o),hJ3,hkp.t hk3⟩
     case measure=>simp [intOf];omega
    ·gi_wp2
     refine bodyPost_ret (results_none rfl _ _ _) rfl ?_
     exact⟨⟨_,rfl⟩,.inr ⟨_,⟨k,hlt,HX.o,HV1.o⟩,hJx3⟩⟩
  ·obtain rfl:k=L:=by omega
   gi_wp2
   go_end0
   exact⟨⟨_,rfl⟩,.inl ⟨_,HV.o,hJ⟩⟩
theorem blocks_in (m:Nat) (s n:Int) (w:World) :
 CallsIn Fence.wide m Tryz.prog 194 #[.int .i64 s,.int .i64 n] w fun e w'=>e=.returned (.func (.func 210) #[] #[.pointer (some ⟨w.heap.size+1,0,none⟩),.pointer (some ⟨w.heap.size,0,none⟩)])∧w'=(w.alloc (.cells #[.int .i64 s] 3)).alloc (.cells #[.int .i64 n] 3):=by
 refine callsIn_of_wp Tryz.func194 rfl trivial ?_ rfl
 simp only [Tryz.ntmps194,List.size_toArray,List.length_cons,List.length_nil,Nat.reduceAdd,Nat.reduceSub,Array.replicate_succ,Array.replicate_zero,List.push_toArray,List.append_toArray,List.nil_append,List.cons_append]
 gi_wp2
 go_ret
 exact⟨rfl,rfl⟩
theorem blocks_stops (m:Nat) (hm:3≤m) (Bs Bn:Nat) (s n:Int) (w:World) (hcs:Blk w Bs 3 [.int .i64 s]) (hcn:Blk w Bn 3 [.int .i64 n]) :
 SeqStopsK Fence.wide m Tryz.prog 210 #[.pointer (some ⟨Bn,0,none⟩),.pointer (some ⟨Bs,0,none⟩)] enc (Kp Bs Bn) (fun ys=>vals ys=hv s (lim n))
  (fun pre=>∃k:Nat,k<lim n∧hb s k=true∧vals pre=hv s k++[(k:Int)]) 16 w:=fun l J Jx W hW _ _ hY h0=>
 qje m hm l Bs Bn s n J Jx hY W (hcs.below hW) (hcn.below hW) h0
end BitP
namespace BitS
open Go.Shelf Mem BitM BitA BitO BitP
attribute [local go_sem] Oper.semAt_some
theorem xor_not (s:Int) (h:n64 s):bits .xor .i64 (-1) s = -1-s:=by
 have e:BitVec.ofInt 64 (-1)^^^BitVec.ofInt 64 s = ~~~ (BitVec.ofInt 64 s):=by
  rw [show BitVec.ofInt 64 (-1)=BitVec.allOnes 64 by decide,BitVec.allOnes_xor]
 show IntKind.i64.wrap ((BitVec.ofInt 64 (-1)^^^BitVec.ofInt 64 s).toNat:Nat) = -1-s
 rw [e,BitVec.toNat_not,BitVec.toNat_ofInt,Mi_]
 have:=h.1
 have:=h.2
 omega
def fst (l:List Int):Int:=l.headD 0
theorem laid3 (w:World) (t1 t2 t3:TypeId) (x1 x2 x3:List Value) {W:World} (hW:((w.alloc (.cells x1.toArray t1)).alloc (.cells x2.toArray t2)).alloc (.cells x3.toArray t3)=W) :
 Blk W w.heap.size t1 x1∧Blk W (w.heap.size+1) t2 x2∧Blk W (w.heap.size+1+1) t3 x3∧Bw w W∧W.heap.size=w.heap.size+3:=by
 subst hW
 refine⟨((Blk.new w _ _).alloc _).alloc _,?_,?_,(((Mb _ w).alloc (Mr _) _).alloc (by simp) _).alloc (by simp;omega) _,by simp⟩
 ·have h:=(Blk.new (w.alloc (.cells x1.toArray t1)) t2 x2).alloc (.cells x3.toArray t3)
  rwa [Ms] at h
 ·have h:=Blk.new ((w.alloc (.cells x1.toArray t1)).alloc (.cells x2.toArray t2)) t3 x3
  rwa [Ms,Ms] at h
theorem laid4 (w:World) (t1 t2 t3 t4:TypeId) (x1 x2 x3 x4:List Value) {W:World} (hW:(((w.alloc (.cells x1.toArray t1)).alloc (.cells x2.toArray t2)).alloc (.cells x3.toArray t3)).alloc (.cells x4.toArray t4)=W) :
 Blk W w.heap.size t1 x1∧Blk W (w.heap.size+1) t2 x2∧Blk W (w.heap.size+1+1) t3 x3∧Blk W (w.heap.size+1+1+1) t4 x4∧Bw w W∧W.heap.size=w.heap.size+4:=by
 subst hW
 obtain⟨h1,h2,h3,h4,h5⟩:=laid3 w t1 t2 t3 x1 x2 x3 rfl
 refine⟨h1.alloc _,h2.alloc _,h3.alloc _,?_,h4.alloc h4.size _,by simp⟩
 have h:=Blk.new (((w.alloc (.cells x1.toArray t1)).alloc (.cells x2.toArray t2)).alloc (.cells x3.toArray t3)) t4 x4
 rwa [h5] at h
theorem qjf {s:Int} {k m:Nat} {x:Int} (hm:m≤16) (hk:k<m) (hb0:hb (-1-s) k=true) (h:[x]=hv (-1-s) k++[(k:Int)]):miss s m≠[]∧fst (miss s m)=x:=by
 obtain⟨j,rfl⟩:∃j,m=k+1+j:=⟨m-k-1,by omega⟩
 have h1:hv (-1-s) (k+1)=[x]:=by rw [hv_succ,if_pos hb0];exact h.symm
 obtain⟨t,ht⟩:=hv_pre (-1-s) (k+1) j
 rw [h1,hv_not s hm] at ht
 rw [←ht]
 exact⟨by simp,rfl⟩
theorem first_any (s n:Int) (w:World) (hs:n64 s):Calls Tryz.prog 172 #[.int .i64 s,.int .i64 n] w fun e w'=>e=.returned (.tuple #[.int .i64 (fst (miss s (lim n))),.bool (!(miss s (lim n)).isEmpty)])∧Bw w w':=by
 have HXN:=xor_not s hs
 have HML:=Hz (hv_not s (lim_le n))
 have HL16:=Hz (lim_le n)
 have f19:Fence.wide.fn 194:=trivial
 refine callsIn_wide (n:=5) |>.1 ?_
 refine callsIn_of_wp_marks Tryz.func172 rfl trivial ?_ rfl
 simp only [Tryz.ntmps172,List.size_toArray,List.length_cons,List.length_nil,Nat.reduceAdd,Nat.reduceSub,Array.replicate_succ,Array.replicate_zero,List.push_toArray,List.append_toArray,List.nil_append,List.cons_append]
 gi_wp2_with (gi_at_call 194;refine (blocks_in 4 _ _ _).mono ?_;rintro e w' ⟨rfl,rfl⟩)
 obtain⟨W0,hW0⟩:∃W0,(((w.alloc (.cells #[.int .i64 0] 3)).alloc (.cells #[.bool false] 4)).alloc (.cells #[.int .i64 (-1-s)] 3)).alloc (.cells #[.int .i64 n] 3)=W0:=⟨_,rfl⟩
 obtain⟨bX,bO,bS,bN,hB0,hsz⟩:=laid4 w _ _ _ _ [.int .i64 0] [.bool false] [.int .i64 (-1-s)] [.int .i64 n] hW0
 rw [hW0]
 clear hW0
 refine wpIn_rangeFunc_ownH rfl (by decide) (gf:=210) (lb:=#[.pointer (some ⟨w.heap.size+1+1+1,0,none⟩),.pointer (some ⟨w.heap.size+1+1,0,none⟩)]) rfl trivial (enters_of Tryz.func210 (by kernel_rfl) rfl)
  (blocks_stops 4 (by decide) (w.heap.size+1+1) (w.heap.size+1+1+1) (-1-s) n W0 bS bN) Kp.t (Kp.b (by omega) (by omega)) (Mb _ _) (fun _=>rfl)
  (fun pre W=>(pre=[]∧Blk W w.heap.size 3 [.int .i64 0]∧Blk W (w.heap.size+1) 4 [.bool false])∧Bw w W)
  (fun cd pre W=>(cd=.ret∧∃x:No,pre=[x]∧Blk W w.heap.size 3 [.int .i64 (nv x)]∧Blk W (w.heap.size+1) 4 [.bool true])∧Bw w W)
  (OwnFrom.and (fun _ _ _ _ hs hg hr=>⟨hs.1,J0 hs.2.1 hg hr,J0 hs.2.2 hg hr⟩) (ownFrom_below (Mr _) (by omega)))
  (fun cd=>OwnFrom.and (fun _ _ _ _ hs hg hr=>by obtain⟨h0,x,h1,h2,h3⟩:=hs;exact⟨h0,x,h1,J0 h2 hg hr,J0 h3 hg hr⟩) (ownFrom_below (Mr _) (by omega)))
  ⟨⟨rfl,bX,bO⟩,hB0⟩
  (fun x a' (_:World)=>a' = { tmps:=#[.int .i64 s,.int .i64 n,undef,undef,.pointer (some ⟨w.heap.size,0,none⟩),.pointer (some ⟨w.heap.size+1,0,none⟩),.int .i64 (nv x),.int .i64 s,.int .i64 (-1-s),.int .i64 n,.func (.func 210) #[] #[.pointer (some ⟨w.heap.size+1+1+1,0,none⟩),.pointer (some ⟨w.heap.size+1+1,0,none⟩)],.int .i64 (nv x),undef],defers:=[] })
  (fun _ _ _ _ _ _ hs _ _=>hs)
  ?assign ?body ?done ?stop
 case assign=>
  rintro l pre x W K hI hK
  simp only [enc]
  gi_wp2
  exact hK _ _ (KeepsFrom.refl _ _) (Kp.refl _) hI rfl
 case body=>
  rintro l pre x a' W hl ⟨r,hr⟩ ⟨⟨rfl,bX1,bO1⟩,hB1⟩ rfl hlt
  have cX:=bX1.cell (i:=0) rfl
  have fX:=bX1.frozen 0
  have cO:=bO1.cell (i:=0) rfl
  have fO:=bO1.frozen 0
  have BX1:=Hz bX1
  have BO1:=Hz bO1
  clear bX1 bO1
  gi_wp2
  exact⟨((KeepsOthers.setCell _ _ _).trans (KeepsOthers.setCell _ _ _)).from _,⟨rfl,x,rfl,(BX1.o.set 0 _).far (by simp) _,(BO1.o.far (by simp) _).set 0 _⟩,(hB1.setCell (by simp) _).setCell (by simp) _⟩
 case done=>
  rintro D ys W hD hys ⟨⟨rfl,bX1,bO1⟩,hB1⟩ hK
  rw [HML.o] at hys
  have hys':miss s (lim n)=[]:=hys.symm
  have HE:=Hz hys'
  clear hys hys'
  have cX:=bX1.cell (i:=0) rfl
  have fX:=bX1.frozen 0
  have cO:=bO1.cell (i:=0) rfl
  have fO:=bO1.frozen 0
  have BX1:=Hz bX1
  have BO1:=Hz bO1
  clear bX1 bO1
  gi_wp2
  have hK':=(KeepsOthers.setCell (W.setCell ⟨w.heap.size,0,none⟩ (.int .i64 0)) ⟨w.heap.size+1,0,none⟩ (.bool false)).same D _ ((KeepsOthers.setCell W ⟨w.heap.size,0,none⟩ (.int .i64 0)).same D _ hK rfl) rfl
  refine⟨by simp,.inl ⟨_,_,rfl,run_takeDeferred hK',?_⟩⟩
  have c4:=cell_kept (((BX1.o.set 0 (.int .i64 0)).far (p:=⟨w.heap.size+1,0,none⟩) (by simp) (.bool false)).cell (i:=0) rfl) (grownBy_putObj' _ D (.deferred none)) (fun r e=>by cases e;exact⟨_,hK',rfl⟩)
  have c5:=cell_kept (((BO1.o.far (p:=⟨w.heap.size,0,none⟩) (by simp) (.int .i64 0)).set 0 (.bool false)).cell (i:=0) rfl) (grownBy_putObj' _ D (.deferred none)) (fun r e=>by cases e;exact⟨_,hK',rfl⟩)
  exact⟨.tuple #[.int .i64 0,.bool false],by simp [results,Tryz.f172,go_sem,c4,c5],by rw [HE.o];rfl,((hB1.setCell (by simp) _).setCell (by simp) _).trans (belowK_b (w:=w) (Mr _) _ D _ _ (by omega) hK' rfl rfl)⟩
 case stop=>
  rintro D cd pre W hD ⟨k,hk,hb0,hv0⟩ ⟨⟨rfl,x,rfl,bX1,bO1⟩,hB1⟩ hK
  obtain⟨hne,hfe⟩:=qjf HL16.o hk hb0 hv0
  have hemp:(miss s (lim n)).isEmpty=false:=by
   cases h:miss s (lim n)
   ·exact absurd h hne
   ·rfl
  have HE:=Hz hemp
  have HF:=Hz hfe
  clear hne hfe hemp hb0 hv0 hk
  have cX:=bX1.cell (i:=0) rfl
  have cO:=bO1.cell (i:=0) rfl
  gi_wp2
  refine⟨by simp,.inl ⟨_,_,rfl,run_takeDeferred hK,?_⟩⟩
  have c4:=cell_kept cX (grownBy_putObj' _ D (.deferred none)) (fun r e=>by cases e;exact⟨_,hK,rfl⟩)
  have c5:=cell_kept cO (grownBy_putObj' _ D (.deferred none)) (fun r e=>by cases e;exact⟨_,hK,rfl⟩)
  exact⟨.tuple #[.int .i64 (nv x),.bool true],by simp [results,Tryz.f172,go_sem,c4,c5],by rw [HE.o,HF.o];rfl,hB1.trans (belowK_b (w:=w) (Mr _) W D _ _ (by omega) hK rfl rfl)⟩
end BitS
namespace StgN
open Mem DskA RecM StgM PlaM
open RecA (sval scells sok)
open BitM (hb)
open BitA (miss lim)
def slc (g:Nat) (t:Slt):List Value:=[.pointer (some ⟨g,0,none⟩),.int .i64 (t.p:Nat),.int .i64 (t.k:Nat),.int .i64 t.g.s,.int .i64 t.g.z,.int .i64 t.g.h]
structure Sm (w:World) (J:Nat→Prop) (a g:Nat) (t:Slt):Prop where
 blk:Blk w a 165 (slc g t)
 own:∀i,J i↔i=a
 is:t.has=true↔t.g≠Sg.none
 ok:sok t.g
theorem Sm.keep {w w':World} {J G:Nat→Prop} {a g:Nat} {t:Slt} (h:Sm w J a g t) (k:Keep G w w') (hd:∀i,J i→¬G i):Sm w' J a g t:=
 ⟨k.blk h.blk (hd a ((h.own a).2 rfl)),h.own,h.is,h.ok⟩
theorem Sm.lt {w:World} {J:Nat→Prop} {a g:Nat} {t:Slt} (h:Sm w J a g t):∀i,J i→i<w.heap.size:=fun i hi=>by
 rw [(h.own i).1 hi]
 exact h.blk.lt
theorem Sm.below {w w':World} {J:Nat→Prop} {a g:Nat} {t:Slt} (h:Sm w J a g t) (hb:Bw w w'):Sm w' J a g t:=h.keep (Keep.of_below (F:=fun _=>False) hb) fun _ _ h=>h
theorem Sm.cells {w:World} {J:Nat→Prop} {a g:Nat} {t:Slt} (h:Sm w J a g t):w.cell? ⟨a,0,none⟩=some (.pointer (some ⟨g,0,none⟩))∧w.cell? ⟨a,1,none⟩=some (.int .i64 (t.p:Nat))∧w.cell? ⟨a,2,none⟩=some (.int .i64 (t.k:Nat))∧
 w.cell? ⟨a,3,none⟩=some (.int .i64 t.g.s)∧w.cell? ⟨a,4,none⟩=some (.int .i64 t.g.z)∧w.cell? ⟨a,5,none⟩=some (.int .i64 t.g.h):=
 ⟨h.blk.cell rfl,h.blk.cell rfl,h.blk.cell rfl,h.blk.cell rfl,h.blk.cell rfl,h.blk.cell rfl⟩
structure DS (w:World) (F J:Nat→Prop) (g a:Nat) (s:St) (t:Slt):Prop where
 dk:Dk w F g s
 sm:Sm w J a g t
 dis:∀i,F i→¬J i
 most:s.L.length≤1000000
 fits:t.p≤3∧t.k≤1∧t.at_+4≤s.S.length
def Sgo (F J:Nat→Prop) (g a:Nat) (w:World) (v:Value) (s':St) (t':Slt) (e:Ending) (w':World):Prop:=
 e=.returned v∧∃F' J',Dk w' F' g s'∧Sm w' J' a g t'∧(∀i,F' i→¬J' i)∧Keep (fun i=>F i∨J i) w w'∧(∀i,F' i→(F i∨J i)∨w.heap.size≤i)∧(∀i,J' i→(F i∨J i)∨w.heap.size≤i)
theorem rS_at {p k:Nat} (hp:p≤3) (hk:k≤1):rS (p:Int) (k:Int)=((10*p+2+4*k:Nat):Int):=by
 unfold rS fnd
 rcases (show k=0∨k=1 from by omega) with rfl|rfl
 ·rw [if_pos (by omega),if_neg (by omega)];omega
 ·rw [if_neg (by omega),if_pos (by omega),if_neg (by omega)];omega
theorem rD_at {p k i:Nat} (hp:p≤3) (hk:k≤1) (hi:i≤2):rD (p:Int) (k:Int) (i:Int)=((10*p+2+4*k+1+i:Nat):Int):=by
 unfold rD
 rw [rS_at hp hk,if_neg (by omega)]
 omega
theorem n64_nat {p:Nat} (hp:p≤1000):PlaM.n64 (p:Int):=⟨by omega,by omega⟩
theorem qve {p k:Nat} (hp:p≤3) (hk:k≤1) (w:World):Calls Tryz.prog 98 #[.int .i64 (p:Nat),.int .i64 (k:Nat)] w fun e w'=>e=.returned (.tuple #[.int .i64 ((10*p+2+4*k:Nat):Int),.bool true])∧Bw w w':=by
 have h:=PlaN.Yj (p:Int) (k:Int) w (n64_nat (by omega)) (n64_nat (by omega))
 rw [rS_at hp hk,PlaN.Ny (by omega),PlaN.Nu (by omega)] at h
 exact h
theorem qwo {p k i:Nat} (hp:p≤3) (hk:k≤1) (hi:i≤2) (w:World):Calls Tryz.prog 133 #[.int .i64 (p:Nat),.int .i64 (k:Nat),.int .i64 (i:Nat)] w fun e w'=>e=.returned (.tuple #[.int .i64 ((10*p+2+4*k+1+i:Nat):Int),.bool true])∧Bw w w':=by
 have h:=PlaN.qqp (p:Int) (k:Int) (i:Int) w (n64_nat (by omega)) (n64_nat (by omega)) (n64_nat (by omega))
 rw [rD_at hp hk hi,PlaN.Ny (by omega),PlaN.Nu (by omega)] at h
 exact h
theorem sneq (g:Sg) (b:Bool) (hb:b=true↔g=Sg.none) (w:World):(Op.equalIn 10000 103 (.agg #[.int .i64 g.s,.int .i64 g.z,.int .i64 g.h]) (.agg #[.int .i64 0,.int .i64 0,.int .i64 0])).run Tryz.prog w=.ok b w:=by
 have ht:Tryz.prog.underlying 103=some (.struct (Tryz.prog.fieldsOf 103)):=by kernel_rfl
 have hp:Tryz.prog.stoodInHeld 103=false:=by kernel_rfl
 rw [show (10000:Nat)=9999+1 from rfl,run_equalIn_struct w 9999 _ _ _ ht hp]
 have e:b=(((g.s==0)&&(g.z==0))&&(g.h==0)):=by
  rw [Bool.eq_iff_iff,hb]
  simp only [Bool.and_eq_true,beq_iff_eq]
  exact⟨fun h=>by rw [h];exact⟨⟨rfl,rfl⟩,rfl⟩,fun⟨⟨h1,h2⟩,h3⟩=>StgP.Sg.eq_of h1 h2 h3⟩
 subst e
 simp [go_sem,Op.eqFields,Tryz.underlying103,Tryz.underlying3]
 clear hb
 (repeat' split) <;> simp [*]
section
variable {w:World} {J:Nat→Prop} {a g:Nat} {t:Slt}
theorem staged_any (h:Sm w J a g t):Calls Tryz.prog 86 #[.pointer (some ⟨a,0,none⟩)] w fun e w'=>e=.returned (.bool t.has)∧w=w':=by
 obtain⟨c0,c1,c2,c3,c4,c5⟩:=h.cells
 have hq:(!t.has)=true↔t.g=Sg.none:=by
  have:=h.is
  cases hh:t.has
  ·rw [hh] at this
   simp at this
   simpa using this
  ·rw [hh] at this
   simp at this
   simpa using this
 have hE:=fun (w:World)=>sneq t.g (!t.has) hq w
 obtain⟨x,hx⟩:∃x,x=t.has:=⟨_,rfl⟩
 rw [←hx] at hE ⊢
 clear h hq hx
 go_enter Tryz.func86,Tryz.ntmps86
 go_wp2
 go_ret
 exact⟨by simp,rfl⟩
theorem Xz (h:Sm w J a g t) (hp:t.p≤3) (hk:t.k≤1):Calls Tryz.prog 112 #[.pointer (some ⟨a,0,none⟩)] w fun e w'=>e=.returned (.int .i64 (t.at_:Nat))∧Bw w w':=by
 obtain⟨c0,c1,c2,c3,c4,c5⟩:=h.cells
 have hlt:=h.blk.lt
 have HP:=Hz (fun w'=>qve hp hk w')
 have e:t.at_=10*t.p+2+4*t.k:=rfl
 rw [e]
 obtain⟨q,hq⟩:∃q,q=10*t.p+2+4*t.k:=⟨_,rfl⟩
 obtain⟨p,hpp⟩:∃p,p=t.p:=⟨_,rfl⟩
 obtain⟨k,hkk⟩:∃k,k=t.k:=⟨_,rfl⟩
 rw [←hq] at HP ⊢
 rw [←hpp,←hkk] at HP
 rw [←hpp] at c1
 rw [←hkk] at c2
 clear h hp hk e hq hpp hkk c0 c3 c4 c5
 go_enter Tryz.func112,Tryz.ntmps112
 go_wp2_with fail
 go_region_held3 (fun w'=>w'.cell? ⟨a,1,none⟩=some (.int .i64 (p:Nat))∧w'.cell? ⟨a,2,none⟩=some (.int .i64 (k:Nat)))
  (first
   | go_keep
   | (go_split_ands;refine⟨?_,?_⟩ <;> (rw [hb1.cell (by simpa using hlt)];assumption)))
  ((go_at_call 98;refine (HP.o _).mono ?_;rintro e w1 ⟨rfl,hb1⟩))
 have HB:=Hz (show Bw w w1 from ((Mb w.heap.size w).drew).trans hb1)
 clear hb1
 go_wp2
 go_ret
 exact⟨rfl,HB.o⟩
theorem Nw (h:Sm w J a g t):Calls Tryz.prog 141 #[.pointer (some ⟨a,0,none⟩)] w fun e w'=>e=.returned (.bool ((miss t.g.h (lim (blocks t.g.z))).isEmpty))∧Bw w w':=by
 obtain⟨c0,c1,c2,c3,c4,c5⟩:=h.cells
 have hlt:=h.blk.lt
 have H1:=Hz (fun w'=>RecG.blocks_any t.g.z w' h.ok.z)
 have H2:=Hz (fun w'=>BitS.first_any t.g.h (blocks t.g.z:Nat) w' h.ok.h)
 obtain⟨M,hM⟩:∃M,M=(miss t.g.h (lim (blocks t.g.z))).isEmpty:=⟨_,rfl⟩
 obtain⟨B,hB⟩:∃B,B=blocks t.g.z:=⟨_,rfl⟩
 rw [←hM] at H2 ⊢
 rw [←hB] at H1 H2
 obtain⟨f,hf⟩:∃f,f=BitS.fst (miss t.g.h (lim B)):=⟨_,rfl⟩
 rw [←hf] at H2
 obtain⟨z,hz⟩:∃z,z=t.g.z:=⟨_,rfl⟩
 obtain⟨hh,hhh⟩:∃hh,hh=t.g.h:=⟨_,rfl⟩
 rw [←hz] at H1 c4
 rw [←hhh] at H2 c5
 clear h hM hB hf hz hhh c0 c1 c2 c3
 go_enter Tryz.func141,Tryz.ntmps141
 go_wp2_with fail
 go_region_held3 (fun w'=>w'.cell? ⟨a,4,none⟩=some (.int .i64 z)∧w'.cell? ⟨a,5,none⟩=some (.int .i64 hh))
  (first
   | go_keep
   | (go_split_ands;refine⟨?_,?_⟩ <;> (rw [hb1.cell (by simpa using hlt)];assumption)))
  ((first
    | (go_at_call 81;refine (H1.o _).mono ?_;rintro e w1 ⟨rfl,rfl⟩)
    | (go_at_call 172;refine (H2.o _).mono ?_;rintro e w1 ⟨rfl,hb1⟩)))
 have HB:=Hz (show Bw w w1 from ((Mb w.heap.size w).drew).trans hb1)
 clear hb1
 go_wp2
 go_ret
 exact⟨by simp,HB.o⟩
end
end StgN
namespace StgN
open Kit Byt Mem DskA DskD StgM
open RecA (sval scells sok)
theorem Nx:(Tryz.prog.info? 169).map (·.size)=some 2:=by kernel_rfl
theorem Xv:(Tryz.prog.info? 103).map (·.size)=some 3:=by kernel_rfl
def stepc (i:Nat) (A:Option Addr) (n c:Nat):List Value:=[.int .i64 (i:Int),.slice A n c]
theorem stepc_one (i:Nat) (A:Option Addr) (n c:Nat):∀u ∈ stepc i A n c,u.oneCell'=true:=by
 intro u hu
 simp [stepc] at hu
 rcases hu with rfl|rfl <;> rfl
def Img (w:World) (s:St) (i:Nat) (e:Ending) (w':World):Prop:=
 Bw w w'∧∃A n,e=.returned (.tuple #[.agg #[.int .i64 (i:Int),.slice A n n],.int .i64 (if s.down then 8 else 0)])∧Hid (s.down=false→n=64∧w'.ownsRow w.heap.size 5 1 (.slice A 64 64) 64 (u8n (now s i)))
theorem image_any {w:World} {F J:Nat→Prop} {g a:Nat} {s:St} {t:Slt} (h:DS w F J g a s t) (i:Nat) (hi:i≤2) :
 Calls Tryz.prog 89 #[.pointer (some ⟨a,0,none⟩),.int .i64 (i:Nat)] w (Img w s (t.dat i)):=by
 have H:=Hz h
 have HP:=Hz (fun w'=>qwo h.fits.1 h.fits.2.1 hi w')
 have e:t.dat i=10*t.p+2+4*t.k+1+i:=rfl
 have hq:t.dat i<s.S.length:=by have:=h.fits.2.2;unfold Slt.dat;omega
 have hb0:Blk (w.alloc (.cells #[.int .i64 0,.slice none 0 0] 169)) w.heap.size 169 [.int .i64 0,.slice none 0 0]:=Blk.new w _ _
 obtain⟨q,hqq⟩:∃q,q=t.dat i:=⟨_,rfl⟩
 rw [←e,←hqq] at HP
 rw [←hqq] at hq ⊢
 have HQ:=Hz hq
 obtain⟨p,hpp⟩:∃p,p=t.p:=⟨_,rfl⟩
 obtain⟨k,hkk⟩:∃k,k=t.k:=⟨_,rfl⟩
 rw [←hpp,←hkk] at HP
 have hlt:a<(w.alloc (.cells #[.int .i64 0,.slice none 0 0] 169)).heap.size:=by have:=h.sm.blk.lt;rw [Ms];omega
 have HB0:=Hz hb0
 have L0:=Hz (show Bw w (w.alloc (.cells #[.int .i64 0,.slice none 0 0] 169)) from (Mb _ _).alloc (Mr _) _)
 clear h e hq hqq hi hb0
 obtain⟨c0,c1,c2,c3,c4,c5⟩:=(H.o.sm.below L0.o).cells
 rw [←hpp] at c1
 rw [←hkk] at c2
 clear c3 c4 c5 hpp hkk
 go_enter Tryz.func89,Tryz.ntmps89
 go_wp2_with fail
 obtain⟨w0,hw0⟩:∃w0,w0=w.alloc (.cells #[.int .i64 0,.slice none 0 0] 169):=⟨_,rfl⟩
 rw [←hw0] at L0 HB0 c0 c1 c2 hlt ⊢
 clear hw0
 go_region_held3 (fun w'=>w'.cell? ⟨a,1,none⟩=some (.int .i64 (p:Nat))∧w'.cell? ⟨a,2,none⟩=some (.int .i64 (k:Nat)))
  (first
   | go_keep
   | (go_split_ands;refine⟨?_,?_⟩ <;> (rw [hb1.cell (by simpa using hlt)];assumption)))
  ((go_at_call 133;refine (HP.o _).mono ?_;rintro e w1 ⟨rfl,hb1⟩))
 have hb1':Bw w0 w1:=((Mb w0.heap.size w0).drew).trans hb1
 have L1:=Hz (L0.o.trans (hb1'.mono L0.o.size))
 have HB1:=Hz (HB0.o.below hb1')
 have d0:w1.cell? ⟨a,0,none⟩=some (.pointer (some ⟨g,0,none⟩)):=(hb1'.cell hlt).trans c0
 clear hb1 hb1' L0 HB0 c0 c1 c2 HP hlt
 have HD1:=Hz (H.o.dk.below L1.o)
 have hL:=H.o.most
 cases hd:s.down with
 | true=>
   have HR:=Hz (read_down F g s (q:Int) w1 HD1.o (by simp [inB,HQ.o]) hd)
   have Hd:=Hz hd
   clear hd hL
   go_wp2_with (first
    | (go_at_call 18;refine HR.o.mono ?_;rintro e w2 ⟨rfl,rfl⟩)
    | (refine Qq rfl 169 (.tmp 4) (.tmp 34) rfl w.heap.size rfl (stepc q none 0 0) rfl HB1.o rfl Nx (stepc_one _ _ _ _) ?_;intro w3 hB3 ho3))
   have e0:=hB3.o.cell (i:=0) rfl
   have e1:=hB3.o.cell (i:=1) rfl
   refine bodyPost_ret (v:=.tuple #[.agg #[.int .i64 (q:Int),.slice none 0 0],.int .i64 8]) (by simp [results,Tryz.results89,go_sem,e0,e1]) rfl ?_
   refine⟨ho3.o.below L1.o (Mr _) L1.o.size,none,0,?_,Hz fun h=>?_⟩
   ·rw [if_pos Hd.o]
   ·rw [Hd.o] at h;cases h
 | false=>
   have HR:=Hz (read_ok F g s q w1 HD1.o HQ.o hd (by omega))
   have Hd:=Hz hd
   clear hd hL
   go_wp2_with (first
    | (go_at_call 18;refine HR.o.mono ?_;rintro e w2 ⟨A,rfl,hown,hb2⟩;have L2:=Hz (L1.o.trans (hb2.mono L1.o.size));have HB2:=Hz (HB1.o.below hb2);have HO2:=Hz hown;have hsz:=hb2.size;have hsz1:=L1.o.size;have hsb:=HB1.o.lt;clear hown hb2)
    | (refine Qq rfl 169 (.tmp 4) (.tmp 34) rfl w.heap.size rfl (stepc q A 64 64) rfl HB2.o rfl Nx (stepc_one _ _ _ _) ?_;intro w3 hB3 ho3))
   have e0:=hB3.o.cell (i:=0) rfl
   have e1:=hB3.o.cell (i:=1) rfl
   refine bodyPost_ret (v:=.tuple #[.agg #[.int .i64 (q:Int),.slice A 64 64],.int .i64 0]) (by simp [results,Tryz.results89,go_sem,e0,e1]) rfl ?_
   refine⟨ho3.o.below L2.o (Mr _) L2.o.size,A,64,?_,Hz fun _=>⟨rfl,?_⟩⟩
   ·rw [if_neg (by rw [Hd.o];simp)]
   ·have hkeep:Keep (fun i=>i=w.heap.size) w2 w3:=Keep.only ho3.o rfl
    refine RecC.own_mono (hkeep.own HO2.o fun k hk=>?_) (by omega)
    have:=(HO2.o.lt k hk).1
    show ¬k=w.heap.size
    omega
structure Stp where
 i:Nat
 A:Option Addr
 c:Nat
 bs:List Nat
def Stp.cells (e:Stp):List Value:=stepc e.i e.A 64 e.c
def stc (Q:List Stp):List Value:=Q.flatMap Stp.cells
theorem qvf (Q:List Stp):(stc Q).length=Q.length*2:=by
 induction Q with
 | nil=>rfl
 | cons e Q ih=>simp only [stc,List.flatMap_cons,Ma] at ih ⊢;rw [ih];simp [Stp.cells,stepc];omega
theorem stc_at {Q:List Stp} {k:Nat} (h:k<Q.length):(stc Q)[2*k]?=some (.int .i64 (Q[k].i:Int))∧(stc Q)[2*k+1]?=some (.slice Q[k].A 64 Q[k].c):=by
 induction Q generalizing k with
 | nil=>simp at h
 | cons e Q ih=>
   have hc:stc (e :: Q)=.int .i64 (e.i:Int) :: .slice e.A 64 e.c :: stc Q:=rfl
   rw [hc]
   cases k with
   | zero=>exact⟨rfl,rfl⟩
   | succ k=>
     have:=ih (k:=k) (by simpa using h)
     rw [show 2*(k+1)=2*k+1+1 by omega]
     simpa using this
def Stp.pair (e:Stp):Nat×List Nat:=(e.i,e.bs)
def pQ (s:St):List (Nat×List Nat)→St×Int
 | []=>(s,0)
 | p :: Q=>if (put1 s p.1 p.2).2=0 then pQ (put1 s p.1 p.2).1 Q else ((put1 s p.1 p.2).1,8)
structure Stp.ok (e:Stp) (w:World) (F:Nat→Prop) (n:Nat):Prop where
 rd:Rd w e.A 64 e.c (u8n e.bs)
 far:∀b o,e.A=some ⟨b,o,none⟩→¬F b
 lt:e.i<n
theorem Stp.ok.step {e:Stp} {w w':World} {F F':Nat→Prop} {n:Nat} (h:e.ok w F n) (k:Keep F w w') (hf:∀i,F' i→F i∨w.heap.size≤i):e.ok w' F' n:=
 ⟨k.rd h.rd fun _=>h.far,fun b o hA hF=>by
  rcases hf b hF with h1|h1
  ·exact h.far b o hA h1
  ·obtain⟨b',o',hA',hc,_⟩:=h.rd.2.2.2 (by omega)
   rw [hA] at hA'
   injection hA' with hA'
   injection hA' with hb' _
   omega,h.lt⟩
theorem Stp.ok.to {e:Stp} {w:World} {F:Nat→Prop} {n m:Nat} (h:e.ok w F n) (hm:n=m):e.ok w F m:=hm▸h
theorem put1_L {s:St} (_hL:s.L.length≤1000000) (i:Nat) (bs:List Nat) (h:(put1 s i bs).2=0):(put1 s i bs).1.L=[]:=by
 unfold put1 at h ⊢
 split at h
 ·cases h
 ·rename_i h1
  rw [if_neg h1]
  split at h
  ·cases h
  ·rename_i h2
   rw [if_neg h2]
   rfl
end StgN
namespace StgN
open Mem DskA DskC DskE DskF RecM StgM
open RecA (sval scells sok)
structure Sts (w:World) (F:Nat→Prop) (b:Nat) (n:Nat) (Q:List Stp) (N:Nat):Prop where
 len:Q.length=n
 blk:∀j u,(stc Q)[j]?=some u→w.cell? ⟨b,j,none⟩=some u
 nf : ¬F b
 lt:b<w.heap.size
 ok:∀e ∈ Q,e.ok w F N
theorem Sts.step {w w':World} {F F':Nat→Prop} {b n N:Nat} {Q:List Stp} (h:Sts w F b n Q N) (k:Keep F w w') (hf:∀i,F' i→F i∨w.heap.size≤i):Sts w' F' b n Q N:=
 ⟨h.len,fun j u hu=>(World.cell?_of_block (k.block b h.lt h.nf)).trans (h.blk j u hu),fun hF=>by
  rcases hf b hF with h1|h1
  ·exact h.nf h1
  ·have:=h.lt;omega,Mw h.lt k.size,fun e he=>(h.ok e he).step k hf⟩
theorem Sts.at_ {w:World} {F:Nat→Prop} {b n N:Nat} {Q:List Stp} (h:Sts w F b n Q N) {k:Nat} (hk:k<n):∃e,e ∈ Q∧Q.drop k=e :: Q.drop (k+1)∧w.cell? ⟨b,k*2,none⟩=some (.int .i64 (e.i:Int))∧w.cell? ⟨b,k*2+1,none⟩=some (.slice e.A 64 e.c):=by
 have hkl:k<Q.length:=by rw [h.len];exact hk
 have ha:=stc_at hkl
 refine⟨Q[k],Me_ _,(List.drop_eq_getElem_cons hkl),?_,?_⟩
 ·rw [Nat.mul_comm];exact h.blk _ _ ha.1
 ·rw [Nat.mul_comm];exact h.blk _ _ ha.2
structure Bec (w wr:World) (F:Nat→Prop) (g b n:Nat) (Q:List Stp) (s:St) (k:Nat) (F':Nat→Prop) (s':St):Prop where
 rest:pQ s (Q.map Stp.pair)=pQ s' ((Q.drop k).map Stp.pair)
 dk:Dk wr F' g s'
 keep:Keep F w wr
 grow:∀i,F' i→F i∨w.heap.size≤i
 few:s'.L.length≤1000000
 long:s'.S.length=s.S.length
 sts:Sts wr F' b n Q s.S.length
theorem pQ_cons_no {s:St} {e:Stp} {Q:List (Nat×List Nat)} (h:(put1 s e.i e.bs).2≠0):pQ s (e.pair :: Q)=((put1 s e.i e.bs).1,8):=by
 show (if (put1 s e.i e.bs).2=0 then pQ (put1 s e.i e.bs).1 Q else ((put1 s e.i e.bs).1,8))=_
 rw [if_neg h]
theorem Hw {s:St} {e:Stp} {Q:List (Nat×List Nat)} (h:(put1 s e.i e.bs).2=0):pQ s (e.pair :: Q)=pQ (put1 s e.i e.bs).1 Q:=by
 show (if (put1 s e.i e.bs).2=0 then pQ (put1 s e.i e.bs).1 Q else ((put1 s e.i e.bs).1,8))=_
 rw [if_pos h]
theorem put1_a {s:St} (i:Nat) (bs:List Nat) (h:(spend s).1=false):put1 s i bs=((spend s).2,8):=by
 unfold put1
 rw [if_pos h]
theorem put1_b {s:St} (i:Nat) (bs:List Nat) (h:(spend s).1=true) (h2:(spend (wrote (spend s).2 i bs)).1=false):put1 s i bs=((spend (wrote (spend s).2 i bs)).2,8):=by
 unfold put1
 rw [if_neg (by rw [h];simp),if_pos h2]
theorem put1_c {s:St} (i:Nat) (bs:List Nat) (h:(spend s).1=true) (h2:(spend (wrote (spend s).2 i bs)).1=true):put1 s i bs=(lay (fun _=>true) (spend (wrote (spend s).2 i bs)).2,0):=by
 unfold put1
 rw [if_neg (by rw [h];simp),if_neg (by rw [h2];simp)]
section
variable {w wr w1:World} {F F' F1 J:Nat→Prop} {g a b n k:Nat} {Q:List Stp} {s s' s1:St} {t:Slt}
theorem Sgo.disk {v:Value} (h:DS w F J g a s t) (hD:Dk w1 F1 g s1) (hk:Keep F w w1) (hf:∀i,F1 i→F i∨w.heap.size≤i):Sgo F J g a w v s1 t (.returned v) w1:=
 ⟨rfl,F1,J,hD,h.sm.keep hk fun i hj hF=>h.dis i hF hj,fun i hF hj=>by
  rcases hf i hF with h4|h4
  ·exact h.dis i h4 hj
  ·have:=h.sm.lt i hj;omega,hk.mono fun _ _ h=>.inl h,fun i hi=>(hf i hi).imp .inl id,fun i hi=>.inl (.inr hi)⟩
theorem Bec.on (h:Bec w wr F g b n Q s k F' s') (hk:Keep F' wr w1) (hf:∀i,F1 i→F' i∨wr.heap.size≤i):Keep F w w1∧∀i,F1 i→F i∨w.heap.size≤i:=
 ⟨h.keep.trans hk h.grow,fun i hi=>by
  rcases hf i hi with h1|h1
  ·exact h.grow i h1
  ·have:=h.keep.size;exact .inr (by omega)⟩
theorem Bec.bad {v:Value} (h:Bec w wr F g b n Q s k F' s') (hd:DS w F J g a s t) (hD:Dk w1 F1 g s1) (hk:Keep F' wr w1) (hf:∀i,F1 i→F' i∨wr.heap.size≤i):Sgo F J g a w v s1 t (.returned v) w1:=by
 obtain⟨h1,h2⟩:=h.on hk hf
 exact Sgo.disk hd hD h1 h2
theorem Bec.good {e:Stp} (h:Bec w wr F g b n Q s k F' s') (hdr:Q.drop k=e :: Q.drop (k+1)) (h0:(put1 s' e.i e.bs).2=0) (hD:Dk w1 F1 g (put1 s' e.i e.bs).1) (hk:Keep F' wr w1) (hf:∀i,F1 i→F' i∨wr.heap.size≤i):Bec w w1 F g b n Q s (k+1) F1 (put1 s' e.i e.bs).1:=by
 obtain⟨h1,h2⟩:=h.on hk hf
 refine⟨?_,hD,h1,h2,?_,?_,h.sts.step hk hf⟩
 ·rw [h.rest,hdr]
  exact Hw h0
 ·rw [put1_L h.few _ _ h0];exact Nat.zero_le _
 ·rw [U3,h.long]
end
def became (t:Slt) (b:Bool) (n:Sg) (e:Int):Slt:=if e=0 then { t with has:=b,g:=n } else t
theorem qjg {w:World} {F J:Nat→Prop} {g a:Nat} {s:St} {t:Slt} (h:DS w F J g a s t) (nx:Sg) (hb:Bool) (hnx:sok nx) (hbn:hb=true↔nx≠Sg.none) (b n c:Nat) (Q:List Stp) (hn:n≤2) (hQ:Sts w F b n Q s.S.length) (_hJ : ¬J b) (_hJq:∀e ∈ Q,∀q o,e.A=some ⟨q,o,none⟩→¬J q) :
 Calls Tryz.prog 131 #[.pointer (some ⟨a,0,none⟩),sval nx,.slice (some ⟨b,0,none⟩) n c] w (Sgo F J g a w (.int .i64 (pQ s (Q.map Stp.pair)).2) (pQ s (Q.map Stp.pair)).1 (became t hb nx (pQ s (Q.map Stp.pair)).2)):=by
 have H:=Hz h
 have L0:=Hz (show Bw w (w.alloc (.cells #[.int .i64 nx.s,.int .i64 nx.z,.int .i64 nx.h] 103)) from (Mb _ _).alloc (Mr _) _)
 have HX0:=Hz (show Blk (w.alloc (.cells #[.int .i64 nx.s,.int .i64 nx.z,.int .i64 nx.h] 103)) w.heap.size 103 (scells nx) from Blk.new w _ _)
 have K0:=Hz (show Keep F w (w.alloc (.cells #[.int .i64 nx.s,.int .i64 nx.z,.int .i64 nx.h] 103)) from Keep.of_below L0.o)
 have HI0:=Hz (show Bec w (w.alloc (.cells #[.int .i64 nx.s,.int .i64 nx.z,.int .i64 nx.h] 103)) F g b n Q s 0 F s from⟨rfl,h.dk.below L0.o,K0.o,fun i hi=>.inl hi,h.most,rfl,hQ.step K0.o fun i hi=>.inl hi⟩)
 have HN:=Hz (show sok nx∧(hb=true↔nx≠Sg.none) from⟨hnx,hbn⟩)
 have hwF : ¬F w.heap.size:=fun hF=>by have:=h.dk.lt _ hF;omega
 have HWF:=Hz hwF
 obtain⟨R,hR⟩:∃R,R=pQ s (Q.map Stp.pair):=⟨_,rfl⟩
 rw [←hR]
 have HR:=Hz hR
 clear h hnx hbn hQ hR hwF
 go_enter Tryz.func131,Tryz.ntmps131
 go_wp2
 obtain⟨w0,hw0⟩:∃w0,w0=w.alloc (.cells #[.int .i64 nx.s,.int .i64 nx.z,.int .i64 nx.h] 103):=⟨_,rfl⟩
 rw [←hw0] at L0 HX0 K0 HI0 ⊢
 have HS0:=Hz (show w0.heap.size=w.heap.size+1 from by rw [hw0,Ms])
 clear hw0
 go_loopw [13] (fun i wr=>∃(k:Nat) (F':Nat→Prop) (s':St),k≤n∧i=.int .i64 k∧Hid (Bec w wr F g b n Q s k F' s')∧Hid (Blk wr w.heap.size 103 (scells nx))∧Hid (¬F' w.heap.size)) (fun i _=>n-(intOf i).toNat)
 case atStart=>exact⟨0,F,s,Nat.zero_le _,rfl,HI0,HX0,HWF⟩
 case round=>
  obtain⟨k,F',s',hk,rfl,HI,HX,HF⟩:=hrel
  have HDS:=Hz (show Sm wr J a g t from H.o.sm.keep HI.o.keep fun i hj hf=>H.o.dis i hf hj)
  obtain⟨c0,_,_,_,_,_⟩:=HDS.o.cells
  have hal:=HDS.o.blk.lt
  by_cases hlt:k<n
  ·obtain⟨e,he,hdr,g0,g1⟩:=HI.o.sts.at_ hlt
   have HE:=Hz he
   have HDR:=Hz hdr
   clear he hdr
   obtain⟨ei,hei⟩:∃ei,ei=e.i:=⟨_,rfl⟩
   obtain⟨eA,heA⟩:∃eA,eA=e.A:=⟨_,rfl⟩
   obtain⟨ec,hec⟩:∃ec,ec=e.c:=⟨_,rfl⟩
   rw [←hei] at g0
   rw [←heA,←hec] at g1
   have HEQ:=Hz (show ei=e.i∧eA=e.A∧ec=e.c from⟨hei,heA,hec⟩)
   clear hei heA hec
   go_wp2_with fail
   have hbx:=Blk.new wr 169 [.int .i64 (ei:Int),.slice eA 64 ec]
   have LB:=Hz (show Bw wr (wr.alloc (.cells #[.int .i64 (ei:Int),.slice eA 64 ec] 169)) from (Mb _ _).alloc (Mr _) _)
   have a0:=(LB.o.cell (p:=⟨a,0,none⟩) hal).trans c0
   obtain⟨wa,hwa⟩:∃wa,wa=wr.alloc (.cells #[.int .i64 (ei:Int),.slice eA 64 ec] 169):=⟨_,rfl⟩
   rw [←hwa] at LB hbx a0 ⊢
   clear hwa
   have b0:wa.cell? ⟨wr.heap.size,0,none⟩=some (.int .i64 (ei:Int)):=hbx.cell rfl
   have b1:wa.cell? ⟨wr.heap.size,1,none⟩=some (.slice eA 64 ec):=hbx.cell rfl
   clear hbx c0 g0 g1
   have HD1:=Hz (show Dk wa.drew F' g s' from (HI.o.dk.below LB.o).keep (Keep.drew (Keep.refl (fun _=>False) wa)) fun _ _ h=>h)
   have HO1:=Hz (show e.ok wa.drew F' s'.S.length from ((HI.o.sts.ok e HE.o).step (Keep.drew (Keep.of_below LB.o)) fun i hi=>.inl hi).to HI.o.long.symm)
   have K1:=Hz (show Keep F' wr wa.drew from (Keep.of_below LB.o).drew)
   have hs1:wr.heap.size≤wa.drew.heap.size:=LB.o.size
   obtain⟨hei,heA,hec⟩:=HEQ.o
   have hsw:a<wa.drew.heap.size:=Mw hal hs1
   cases hs:(spend s').1 with
   | false=>
     have HW:=Hz (write_down F' g s' (ei:Int) eA ec wa.drew HD1.o (by simp [inB,hei,HO1.o.lt]) hs)
     have HP:=Hz (put1_a e.i e.bs hs)
     clear hei heA hec hs
     go_still_tail 8,(by kernel_rfl)
     change wpList _ _ _ _ _ (World.drew _)
     go_wp2_with (go_at_call 19;refine HW.o.mono ?_;rintro e w1 ⟨rfl,F1,hD1,hk1,hf1⟩;have HDD:=Hz hD1;have HKK:=Hz (K1.o.trans hk1 fun i hi=>.inl hi);have HFF:=Hz (show ∀i,F1 i→F' i∨wr.heap.size≤i from fun i hi=>(hf1 i hi).imp id fun h=>Ml hs1 h);clear hD1 hk1 hf1)
     go_ret
     have hRR:R=((spend s').2,8):=by rw [HR.o,HI.o.rest,HDR.o];exact (pQ_cons_no (by rw [HP.o];show (8:Int)≠0;omega)).trans (by rw [HP.o])
     rw [hRR]
     exact HI.o.bad H.o HDD.o HKK.o HFF.o
   | true=>
     have HW:=Hz (write_ok F' g s' e.i eA ec e.bs wa.drew HD1.o HO1.o.lt (by rw [heA,hec];exact HO1.o.rd) (fun b o hA=>HO1.o.far b o (by rw [←heA];exact hA)) hs (by have:=HI.o.few;omega))
     rw [←hei] at HW
     have HSP:=Hz hs
     have HEI:=Hz hei
     clear hei heA hec hs
     go_still_tail 8,(by kernel_rfl)
     change wpList _ _ _ _ _ (World.drew _)
     go_wp2_with (go_at_call 19;refine HW.o.mono ?_;rintro e w1 ⟨rfl,F1,hD1,hk1,hf1⟩;have HDD:=Hz hD1;have HKK:=Hz (K1.o.trans hk1 fun i hi=>.inl hi);have HFF:=Hz (show ∀i,F1 i→F' i∨wr.heap.size≤i from fun i hi=>(hf1 i hi).imp id fun h=>Ml hs1 h);have HSM:=Hz (show Sm w1 J a g t from H.o.sm.keep (HI.o.on HKK.o HFF.o).1 fun i hj hf=>H.o.dis i hf hj);obtain⟨e0,_,_,_,_,_⟩:=HSM.o.cells;clear hD1 hk1 hf1 a0 b0 b1)
     have hw:({ (spend s').2 with L:=s'.L++[(ei,e.bs)] }:St)=wrote (spend s').2 e.i e.bs:=by
      unfold wrote
      rw [(spend_S s').2,HEI.o]
     have HDW:=Hz (show Dk w1 F1 g (wrote (spend s').2 e.i e.bs) from hw▸HDD.o)
     clear hw HDD
     have hs1':wr.heap.size≤w1.heap.size:=HKK.o.size
     cases hs2:(spend (wrote (spend s').2 e.i e.bs)).1 with
     | false=>
       have HFL:=Hz (flush_down F1 g _ w1 HDW.o hs2)
       have HP:=Hz (put1_b e.i e.bs HSP.o hs2)
       clear hs2
       go_wp2_with (go_at_call 130;refine HFL.o.mono ?_;rintro e w2 ⟨rfl,F2,hD2,hk2,hf2⟩;have HDD:=Hz hD2;have HK2:=Hz (HKK.o.trans hk2 HFF.o);have HF2:=Hz (show ∀i,F2 i→F' i∨wr.heap.size≤i from fun i hi=>by rcases hf2 i hi with h|h;exact HFF.o i h;exact .inr (Ml hs1' h));clear hD2 hk2 hf2)
       go_ret
       have hRR:R=((spend (wrote (spend s').2 e.i e.bs)).2,8):=by rw [HR.o,HI.o.rest,HDR.o];exact (pQ_cons_no (by rw [HP.o];show (8:Int)≠0;omega)).trans (by rw [HP.o])
       rw [hRR]
       exact HI.o.bad H.o HDD.o HK2.o HF2.o
     | true=>
       have HFL:=Hz (flush_ok F1 g _ w1 HDW.o hs2 (by have:=HI.o.few;show ((spend s').2.L++[(e.i,e.bs)]).length≤_;rw [(spend_S s').2,Ma];show s'.L.length+1≤_;omega))
       have HP:=Hz (put1_c e.i e.bs HSP.o hs2)
       clear hs2
       go_wp2_with (go_at_call 130;refine HFL.o.mono ?_;rintro e w2 ⟨rfl,F2,hD2,hk2,hf2⟩;have HDD:=Hz hD2;have HK2:=Hz (HKK.o.trans hk2 HFF.o);have HF2:=Hz (show ∀i,F2 i→F' i∨wr.heap.size≤i from fun i hi=>by rcases hf2 i hi with h|h;exact HFF.o i h;exact .inr (Ml hs1' h));clear hD2 hk2 hf2)
       have hput:put1 s' e.i e.bs=(lay (fun _=>true) (spend (wrote (spend s').2 e.i e.bs)).2,0):=HP.o
       have hD3:Dk w2 F2 g (put1 s' e.i e.bs).1:=by rw [hput];exact HDD.o
       have hI3:=HI.o.good HDR.o (by rw [hput]) hD3 HK2.o HF2.o
       have HI3:=Hz hI3
       have hwr:w.heap.size<wr.heap.size:=HX.o.lt
       have HX3:=Hz (HK2.o.blk HX.o HF.o)
       have HF3:=Hz (show ¬F2 w.heap.size from fun hF=>by
        rcases HF2.o _ hF with h1|h1
        ·exact HF.o h1
        ·omega)
       obtain⟨s3,hs3⟩:∃s3,s3=(put1 s' e.i e.bs).1:=⟨_,rfl⟩
       rw [←hs3] at HI3
       clear hput hD3 hI3 hs3 e0
       go_wp2
       go_roundw
       case rel=>exact⟨k+1,F2,s3,by omega,by go_num,HI3,HX3,HF3⟩
       case measure=>simp [intOf];omega
  ·obtain rfl:k=n:=by omega
   have hRR:R=(s',0):=by
    rw [HR.o,HI.o.rest,List.drop_eq_nil_of_le (by rw [HI.o.sts.len];omega)]
    rfl
   have HRR:=Hz hRR
   clear hRR HR
   obtain⟨x0,x1,x2⟩:wr.cell? ⟨w.heap.size,0,none⟩=some (.int .i64 nx.s)∧wr.cell? ⟨w.heap.size,1,none⟩=some (.int .i64 nx.z)∧wr.cell? ⟨w.heap.size,2,none⟩=some (.int .i64 nx.h):=⟨HX.o.cell rfl,HX.o.cell rfl,HX.o.cell rfl⟩
   go_wp2_with (refine Qk rfl 103 (.tmp 41) (.tmp 39) rfl a 3 rfl (scells nx) rfl HDS.o.blk (by simp [slc,scells]) Xv (by intro u hu;simp [scells] at hu;rcases hu with rfl|rfl|rfl <;> rfl) ?_;intro w2 hB2 ho2)
   go_ret
   have haJ:J a:=(H.o.sm.own a).2 rfl
   have haF : ¬F' a:=fun hF=>by
    rcases HI.o.grow a hF with h1|h1
    ·exact H.o.dis a h1 haJ
    ·have:=H.o.sm.blk.lt;omega
   have hk2:Keep (fun i=>i=a) wr w2:=Keep.only ho2.o rfl
   rw [HRR.o]
   refine⟨rfl,F',J,HI.o.dk.keep hk2 (fun i hF (e:i=a)=>haF (e▸hF)),⟨?_,H.o.sm.own,?_,?_⟩,fun i hF hj=>haF ((H.o.sm.own i).1 hj▸hF),?_,fun i hi=>(HI.o.grow i hi).imp .inl id,fun i hi=>.inl (.inr hi)⟩
   ·have hB:=hB2.o
    rw [show splice (slc g t) 3 (scells nx)=slc g (became t hb nx 0) from rfl] at hB
    exact hB
   ·exact HN.o.2
   ·exact HN.o.1
   ·exact (HI.o.keep.mono (fun _ _ h=>Or.inl h)).trans (hk2.mono (G:=fun i=>F i∨J i) fun i _ (e:i=a)=>.inr (e▸haJ)) fun i hi=>.inl hi
end StgN
end Go.Proofs.YtpidbddllnidhaaGreatDoor
