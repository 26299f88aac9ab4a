/- The parts that this claim uses of: RecG6 · RecH · RecN · PlaD0 · PlaM. Conditions: those that each law names. -/
import Derived.Test.YtkepomnbhnnliaaGreatDoorK23
import Derived.Test.YtkepomnbhnnliaaGreatDoorK24
set_option maxRecDepth 100000
set_option maxHeartbeats 12800000
namespace Go.Proofs.YtkepomnbhnnliaaGreatDoor
namespace RecG
open Go.RowKit Kit Byt Mem RecM RecA
theorem right6 (p q a c l t:Int) (w:World) (s0:inn p 0 3=true) (s1:inn q 1 4294967295=true) (s2:inn a 0 1=true) (s3:inn c 0 1=true) (s4:inn l 0 (most a c)=true) (s5:inn t 0 3=true) (ha:a=0∨a=1) (hc:c=0∨c=1):Calls Tryz.prog 162 #[rval ⟨p,q,a,c,l,t⟩] w (Yes w (bits .and .i64 t (need a c)==0)):=by
 have HX:=Hz (Bx.new w 64 (rcells ⟨p,q,a,c,l,t⟩))
 have HMA:=Hz (fun w'=>most_any p q a c l t w')
 have W0:=Hz (fun w1=>within_eq s0 w1)
 have W1:=Hz (fun w1=>within_eq s1 w1)
 have W2:=Hz (fun w1=>within_eq s2 w1)
 have W3:=Hz (fun w1=>within_eq s3 w1)
 have W4:=Hz (fun w1=>within_eq s4 w1)
 have W5:=Hz (fun w1=>within_eq s5 w1)
 obtain⟨M,hM⟩:∃M,M=most a c:=⟨_,rfl⟩
 rw [←hM] at HMA W4
 have HND:=Hz (fun w'=>need_any p q a c l t w' ha hc)
 obtain⟨D,hD⟩:∃D,D=need a c:=⟨_,rfl⟩
 rw [←hD] at HND
 have HRES:=Hz (show bits .and .i64 t (need a c)=bits .and .i64 t D from by rw [←hD])
 clear hD ha hc
 clear hM s0 s1 s2 s3 s4 s5
 show Calls _ _ #[.agg #[.int .i64 p,.int .i64 q,.int .i64 a,.int .i64 c,.int .i64 l,.int .i64 t]] w _
 go_enter Tryz.func162,Tryz.ntmps162
 go_wp2_with fail
 have HX2:Hid (Bx w w.heap.size 64 (rcells ⟨p,q,a,c,l,t⟩) (w.alloc (.cells #[.int .i64 p,.int .i64 q,.int .i64 a,.int .i64 c,.int .i64 l,.int .i64 t] 64))):=HX
 generalize w.alloc (.cells #[.int .i64 p,.int .i64 q,.int .i64 a,.int .i64 c,.int .i64 l,.int .i64 t] 64)=w2 at *
 obtain⟨y0,y1,y2,y3,y4,y5⟩:=Bx.six HX2.out
 go_region_held3 (fun w'=>w'.cell? ⟨w.heap.size,0,none⟩=some (.int .i64 p)∧w'.cell? ⟨w.heap.size,1,none⟩=some (.int .i64 q)∧w'.cell? ⟨w.heap.size,2,none⟩=some (.int .i64 a)∧w'.cell? ⟨w.heap.size,3,none⟩=some (.int .i64 c)∧w'.cell? ⟨w.heap.size,4,none⟩=some (.int .i64 l)∧w'.cell? ⟨w.heap.size,5,none⟩=some (.int .i64 t))
  (first|go_keep|exact Bx.six HXb.out|exact Bx.six HXa.out)
  (first
   | (go_at_call 114;(first|(with_reducible refine (W0.out _).mono ?_)|(with_reducible refine (W1.out _).mono ?_)|(with_reducible refine (W2.out _).mono ?_)|(with_reducible refine (W3.out _).mono ?_)|(with_reducible refine (W4.out _).mono ?_)|(with_reducible refine (W5.out _).mono ?_));rintro e w' ⟨rfl,rfl⟩)
   | (go_at_call 206;refine (HND.out _).mono ?_;rintro e wn ⟨rfl,hbn⟩;have HXb:=Hz (HXa.out.step hbn);clear hbn)
   | (go_at_call 205;refine (HMA.out _).mono ?_;rintro e wn ⟨rfl,hbn⟩;have HXa:=Hz (HX2.out.step (((Below.refl w2.heap.size w2).drew).trans hbn));clear hbn))
 all_goals (clear y0 y1 y2 y3 y4 y5;go_wp2;go_ret;exact⟨by rw [HRES.out];rfl,HXb.out.bel⟩)
end RecG
namespace RecG
open Go.RowKit Kit Byt Mem RecM RecA
theorem right_any (r:Rc) (w:World) (b:Bool) (hb:b=true↔r.right):Calls Tryz.prog 162 #[rval r] w (Yes w b):=by
 obtain⟨p,q,a,c,l,t⟩:=r
 have HB:=Hz (show b=true↔((0≤p∧p≤3)∧(1≤q∧q≤4294967295)∧(0≤a∧a≤1)∧(0≤c∧c≤1))∧(0≤l∧l≤7)∧(0≤t∧t≤3)∧(a=c→l=0)∧¬bitOn t a∧¬bitOn t c from hb)
 clear hb
 have HX:=Hz (Bx.new w 64 (rcells ⟨p,q,a,c,l,t⟩))
 have HF:=Hz (show ∀q:Prop,(b=true→q)→¬q→b=false from fun q h hp=>by rw [Bool.eq_false_iff];exact fun hb=>hp (h hb))
 show Calls _ _ #[.agg #[.int .i64 p,.int .i64 q,.int .i64 a,.int .i64 c,.int .i64 l,.int .i64 t]] w _
 cases s0:inn p 0 3
 ·have hbf:=Hz (HF.out _ (fun h=>(HB.out.1 h).1.1) (inn_false s0))
  go_enter Tryz.func162,Tryz.ntmps162
  go_wp2_with fail
  have W0:=Hz (fun w1=>within_q s0 w1)
  clear s0
  go_quiet ((first|(go_at_call 114;with_reducible exact Calls.quiet_of_same (W0.out _))))
  go_wp2
  go_ret
  exact⟨by rw [hbf.out];rfl,below_drewN HX.out.bel _⟩
 ·skip
  cases s1:inn q 1 4294967295
  ·have hbf:=Hz (HF.out _ (fun h=>(HB.out.1 h).1.2.1) (inn_false s1))
   go_enter Tryz.func162,Tryz.ntmps162
   go_wp2_with fail
   have W0:=Hz (fun w1=>within_q s0 w1)
   have W1:=Hz (fun w1=>within_q s1 w1)
   clear s0 s1
   go_quiet ((first|(go_at_call 114;with_reducible exact Calls.quiet_of_same (W0.out _))|(go_at_call 114;with_reducible exact Calls.quiet_of_same (W1.out _))))
   go_wp2
   go_ret
   exact⟨by rw [hbf.out];rfl,below_drewN HX.out.bel _⟩
  ·skip
   cases s2:inn a 0 1
   ·have hbf:=Hz (HF.out _ (fun h=>(HB.out.1 h).1.2.2.1) (inn_false s2))
    go_enter Tryz.func162,Tryz.ntmps162
    go_wp2_with fail
    have W0:=Hz (fun w1=>within_q s0 w1)
    have W1:=Hz (fun w1=>within_q s1 w1)
    have W2:=Hz (fun w1=>within_q s2 w1)
    clear s0 s1 s2
    go_quiet ((first|(go_at_call 114;with_reducible exact Calls.quiet_of_same (W0.out _))|(go_at_call 114;with_reducible exact Calls.quiet_of_same (W1.out _))|(go_at_call 114;with_reducible exact Calls.quiet_of_same (W2.out _))))
    go_wp2
    go_ret
    exact⟨by rw [hbf.out];rfl,below_drewN HX.out.bel _⟩
   ·skip
    cases s3:inn c 0 1
    ·have hbf:=Hz (HF.out _ (fun h=>(HB.out.1 h).1.2.2.2) (inn_false s3))
     go_enter Tryz.func162,Tryz.ntmps162
     go_wp2_with fail
     have W0:=Hz (fun w1=>within_q s0 w1)
     have W1:=Hz (fun w1=>within_q s1 w1)
     have W2:=Hz (fun w1=>within_q s2 w1)
     have W3:=Hz (fun w1=>within_q s3 w1)
     clear s0 s1 s2 s3
     go_quiet ((first|(go_at_call 114;with_reducible exact Calls.quiet_of_same (W0.out _))|(go_at_call 114;with_reducible exact Calls.quiet_of_same (W1.out _))|(go_at_call 114;with_reducible exact Calls.quiet_of_same (W2.out _))|(go_at_call 114;with_reducible exact Calls.quiet_of_same (W3.out _))))
     go_wp2
     go_ret
     exact⟨by rw [hbf.out];rfl,below_drewN HX.out.bel _⟩
    ·skip
     have HA:=Hz (show a=0∨a=1 from by have:=inn_true s2;omega)
     have HC:=Hz (show c=0∨c=1 from by have:=inn_true s3;omega)
     have H4:=Hz (⟨inn_true s0,inn_true s1,inn_true s2,inn_true s3⟩:(0≤p∧p≤3)∧(1≤q∧q≤4294967295)∧(0≤a∧a≤1)∧(0≤c∧c≤1))
     obtain⟨M,hM⟩:∃M,M=most a c:=⟨_,rfl⟩
     have HM:=Hz hM
     have HL:=Hz (show (inn l 0 M=true)↔((0≤l∧l≤7)∧(a=c→l=0)) from by
      have h2:=HM.out
      unfold most at h2
      unfold inn
      rw [decide_eq_true_eq]
      split at h2
      ·rename_i e
       exact⟨fun h=>⟨by omega,fun _=>by omega⟩,fun h=>by have:=h.2 e;omega⟩
      ·rename_i e
       exact⟨fun h=>⟨by omega,fun h=>absurd h e⟩,fun h=>by omega⟩)
     cases s4:inn l 0 M
     ·rw [HF.out _ (fun h=>HL.out.2 ⟨(HB.out.1 h).2.1,(HB.out.1 h).2.2.2.1⟩) (by rw [s4];simp)]
      exact right4 p q a c l t w s0 s1 s2 s3 (HM.out▸s4)
     ·cases s5:inn t 0 3
      ·rw [HF.out _ (fun h=>(HB.out.1 h).2.2.1) (inn_false s5)]
       exact right5 p q a c l t w s0 s1 s2 s3 (HM.out▸s4) s5
      ·have hbt:b=(bits .and .i64 t (need a c)==0):=by
        rw [Bool.eq_iff_iff,HB.out,and_need (inn_true s5) HA.out HC.out]
        exact⟨fun h=>h.2.2.2.2,fun h=>⟨H4.out,(HL.out.1 s4).1,inn_true s5,(HL.out.1 s4).2,h⟩⟩
       rw [hbt]
       exact right6 p q a c l t w s0 s1 s2 s3 (HM.out▸s4) s5 HA.out HC.out
end RecG
namespace RecN
open Go.RowKit Kit Byt Mem RecM RecA RecC RecG RecI RecJ RecK RecL
theorem mark_r:marks { data:=#[76,67] } 67:=rfl
theorem mark_s:marks { data:=#[76,83] } 83:=rfl
theorem size_rec:(Tryz.prog.info? 64).map (·.size)=some 6:=by kernel_rfl
theorem size_stg:(Tryz.prog.info? 80).map (·.size)=some 3:=by kernel_rfl
theorem one_r (r:Rc):∀u ∈ rcells r,u.oneCell'=true:=by intro u hu;simp [rcells] at hu;rcases hu with rfl|rfl|rfl|rfl|rfl|rfl <;> rfl
theorem one_s (g:Sg):∀u ∈ scells g,u.oneCell'=true:=by intro u hu;simp [scells] at hu;rcases hu with rfl|rfl|rfl <;> rfl
def rF (r:Rc):List (Nat×Int):=[(1,r.p),(4,r.q),(1,r.a),(1,r.c),(1,r.l),(1,r.b)]
def sF (g:Sg):List (Nat×Int):=[(2,g.s),(2,g.z),(2,g.h)]
theorem rF_told (r:Rc):r.bytes=[76,67]++told (rF r):=by simp [told,rF,Rc.bytes]
theorem sF_told (g:Sg):g.bytes=[76,83]++told (sF g):=by simp [told,sF,Sg.bytes]
theorem rF_len (r:Rc):(told (rF r)).length=9:=by have h:=r.bytes_len;rw [rF_told,List.length_append] at h;simp at h;omega
theorem sF_len (g:Sg):(told (sF g)).length=6:=by have h:=g.bytes_len;rw [sF_told,List.length_append] at h;simp at h;omega
def Puts (w:World) (xs:List Nat) (e:Ending) (w':World):Prop:=∃B m d,e=.returned (.tuple #[.slice B m d,.int .i64 0])∧w'.ownsRow w.heap.size 5 1 (.slice B m d) m (u8n xs)∧Below w.heap.size w w'
def Gets (w:World) (v:Value) (x:Int) (e:Ending) (w':World):Prop:=e=.returned (.tuple #[v,.int .i64 x])∧Below w.heap.size w w'
theorem rput_no (r:Rc) (w:World) (_hk:rok r) (hr : ¬r.right):Calls Tryz.prog 116 #[rval r] w (Gets w (.slice none 0 0) 3):=by
 have HR:=Hz (fun w'=>right_any r w' false (by simpa using hr))
 have HX:=Hz (Bx.new w 64 (rcells r))
 clear hr _hk
 obtain⟨p,q,a,c,l,t⟩:=r
 show Calls _ _ #[.agg #[.int .i64 p,.int .i64 q,.int .i64 a,.int .i64 c,.int .i64 l,.int .i64 t]] w _
 go_enter Tryz.func116,Tryz.ntmps116
 go_wp2_with fail
 refine (HR.out _).mono ?_
 rintro e w1 ⟨rfl,hb1⟩
 have HX1:=Hz (HX.out.step hb1)
 clear hb1 HX
 go_wp2
 go_ret2
 exact⟨rfl,HX1.out.bel⟩
theorem rput_yes (r:Rc) (w:World) (_hk:rok r) (hr:r.right):Calls Tryz.prog 116 #[rval r] w (Puts w (shut r.bytes)):=by
 have HR:=Hz (fun w'=>right_any r w' true (by simpa using hr))
 have HX:=Hz (Bx.new w 64 (rcells r))
 have HT:=Hz (rF_told r)
 have HL:=Hz (rF_len r)
 have HS:=Hz (fun g gb t' t2 w'=>sector_any { data:=#[76,67] } 67 mark_r (by omega) (rF r) g gb 6 t' t2 w' rfl (by omega) (by omega))
 clear hr _hk
 obtain⟨p,q,a,c,l,t⟩:=r
 show Calls _ _ #[.agg #[.int .i64 p,.int .i64 q,.int .i64 a,.int .i64 c,.int .i64 l,.int .i64 t]] w _
 go_enter Tryz.func116,Tryz.ntmps116
 go_wp2_with fail
 refine (HR.out _).mono ?_
 rintro e w1 ⟨rfl,hb1⟩
 have HX1:=Hz (HX.out.step hb1)
 clear hb1 HX
 go_wp2_with fail
 refine (ofRecord_any w.heap.size w1).mono ?_
 rintro e w2 ⟨rfl,hb2⟩
 have HX2:=Hz (HX1.out.step hb2)
 have hs2:=HX2.out.bel.size
 clear hb2 HX1
 go_wp2_with (refine wpList_store_blk rfl 242 (.tmp 4) (.tmp 8) rfl w2.heap.size rfl (fcells w.heap.size rws) rfl (Blk.new w2 242 [.pointer none,.int .i64 0,.pointer none,.int .i64 0,.pointer none,.int .i64 0,.pointer none,.int .i64 0,.pointer none,.int .i64 0,.pointer none,.int .i64 0]) (by rw [fcells_len];rfl) (by rw [fcells_len];exact size_f6) (fcells_one _ _) ?_;intro w3 hB3 ho3)
 have HL3:=Hz (show Below w2.heap.size w2 w3 from ho3.out.below ((Below.refl _ _).alloc (Nat.le_refl _) _) (Nat.le_refl _) (by simp))
 have HX3:=Hz (HX2.out.step HL3.out)
 refine (HS.out w.heap.size w2.heap.size _ _ w3 hB3.out HX3.out.blk (by have:=HL.out;omega) _ HT.out).mono ?_
 rintro e w4 ⟨B,k,d,rfl,hown,hb4⟩
 have HO4:=Hz (own_mono hown HX3.out.bel.size)
 have HL4:=Hz (HX3.out.bel.trans (hb4.mono HX3.out.bel.size))
 clear hown hb4
 go_wp2
 go_ret2
 exact⟨B,k,d,rfl,HO4.out,HL4.out⟩
theorem rget_any (A:Option Addr) (n c:Nat) (xs:List Nat) (w:World) (hR:Rd w A n c (u8n xs)) (hb:byt xs) :
 Calls Tryz.prog 197 #[.slice A n c] w (Gets w (rval (getR xs).1) (getR xs).2):=by
 have HR:=Hz hR
 have HBY:=Hz hb
 have HL0:=Hz (fun g gb t' t2 (V:List Int) w' (h:Rd w' A n c (u8n xs)) (hV:V.length=6)=>lay_any A n c xs { data:=#[76,67] } 67 rws V g gb 6 11 t' t2 w' h hb mark_r (by omega) rfl hV (by omega) (by omega) (by intro x hx;simp [rws] at hx;omega) rfl (by omega))
 have hB0:=Blk.new w 64 (rcells Rc.none)
 have hl0:Below w.heap.size w (w.alloc (.cells (rcells Rc.none).toArray 64)):=(Below.refl _ _).alloc (Nat.le_refl _) _
 have hB1:=Blk.new (w.alloc (.cells (rcells Rc.none).toArray 64)) 64 (rcells Rc.none)
 have hs1:(w.alloc (.cells (rcells Rc.none).toArray 64)).heap.size=w.heap.size+1:=by simp
 rw [hs1] at hB1
 have hB0':=hB0.alloc (.cells (rcells Rc.none).toArray 64)
 have hl1:Below w.heap.size w ((w.alloc (.cells (rcells Rc.none).toArray 64)).alloc (.cells (rcells Rc.none).toArray 64)):=hl0.alloc (by rw [hs1];omega) _
 have H0:=Hz hB0'
 have H1:=Hz hB1
 have HL1:=Hz hl1
 obtain⟨x,hx⟩:∃x,x=wrong 67 11 xs:=⟨_,rfl⟩
 have HXW:=Hz hx
 rw [←hx] at HL0
 clear hB0 hB0' hB1 hl0 hl1 hs1 hR hb hx
 obtain⟨w1,hw1⟩:∃w1,w1=((w.alloc (.cells (rcells Rc.none).toArray 64)).alloc (.cells (rcells Rc.none).toArray 64)):=⟨_,rfl⟩
 rw [←hw1] at H0 H1 HL1
 have hw1':((w.alloc (.cells #[.int .i64 0,.int .i64 0,.int .i64 0,.int .i64 0,.int .i64 0,.int .i64 0] 64)).alloc (.cells #[.int .i64 0,.int .i64 0,.int .i64 0,.int .i64 0,.int .i64 0,.int .i64 0] 64))=w1:=hw1.symm
 have HW1:=Hz hw1'
 clear hw1 hw1'
 go_enter Tryz.func197,Tryz.ntmps197
 go_wp2_with fail
 rw [HW1.out]
 clear HW1
 refine (ofRecord_any (w.heap.size+1) w1).mono ?_
 rintro e w2 ⟨rfl,hb2⟩
 have H02:=Hz (H0.out.below hb2)
 have H12:=Hz (H1.out.below hb2)
 have HL2:=Hz (HL1.out.trans (hb2.mono HL1.out.size))
 have hs2:=HL2.out.size
 have hg1:=H12.out.lt
 clear hb2 H0 H1 HL1
 go_wp2_with (refine wpList_store_blk rfl 242 (.tmp 5) (.tmp 7) rfl w2.heap.size rfl (fcells (w.heap.size+1) rws) rfl (Blk.new w2 242 [.pointer none,.int .i64 0,.pointer none,.int .i64 0,.pointer none,.int .i64 0,.pointer none,.int .i64 0,.pointer none,.int .i64 0,.pointer none,.int .i64 0]) (by rw [fcells_len];rfl) (by rw [fcells_len];exact size_f6) (fcells_one _ _) ?_;intro w3 hB3 ho3)
 have hl3:Below w2.heap.size w2 w3:=ho3.out.below ((Below.refl _ _).alloc (Nat.le_refl _) _) (Nat.le_refl _) (by simp)
 have H03:=Hz (H02.out.below hl3)
 have H13:=Hz (H12.out.below hl3)
 have HL3:=Hz (HL2.out.trans (hl3.mono hs2))
 clear hl3 ho3 H02 H12 HL2
 refine (HL0.out (w.heap.size+1) w2.heap.size _ _ [0,0,0,0,0,0] w3 (HR.out.below HL3.out) rfl hB3.out H13.out (by omega)).mono ?_
 rintro e w4 ⟨rfl,hy,hno,hk4⟩
 have H04:=Hz (hk4.blk H03.out (by show ¬w.heap.size=w.heap.size+1;omega))
 have HL4:=Hz (show Below w.heap.size w w4 from HL3.out.trans (hk4.below (B:=w.heap.size) (fun k hk=>by rw [show k=w.heap.size+1 from hk];omega) HL3.out.size))
 have HY:=Hz hy
 clear hy hno hk4 hB3 H03 H13 HL3 HL0
 by_cases hx0:x=0
 ·subst hx0
  have H14:=Hz (show Blk w4 (w.heap.size+1) 64 (rcells (rcOf xs)) from by rw [←numsOf_r];exact HY.out rfl)
  have HG:=Hz (show getR xs=if (rcOf xs).right then (rcOf xs,0) else (Rc.none,3) from by unfold getR;rw [←HXW.out,if_neg (by simp)])
  have HK:=Hz (trivial)
  obtain⟨br,hbr⟩:=bool_of (rcOf xs).right
  have HBR:=Hz hbr
  clear hbr HY
  go_wp2_with (refine wpList_load_blk rfl 64 _ rfl (w.heap.size+1) rfl H14.out Tryz.underlying64 rfl size_rec ?_)
  refine (right_any (rcOf xs) _ br HBR.out).mono ?_
  rintro e w8 ⟨rfl,hb8⟩
  have H08:=Hz (H04.out.below hb8)
  have H18:=Hz (H14.out.below hb8)
  have HL8:=Hz (HL4.out.trans (hb8.mono HL4.out.size))
  clear hb8 H04 H14 HL4
  cases br
  ·have hG:getR xs=(Rc.none,3):=by rw [HG.out,if_neg (fun h=>by have:=HBR.out.2 h;cases this)]
   go_wp2_with (refine wpList_store_blk rfl 64 (.tmp 2) (.tmp 18) rfl w.heap.size rfl (rcells Rc.none) rfl H08.out rfl size_rec (one_r _) ?_;intro w9 hB9 ho9)
   have e0:=hB9.out.cell (i:=0) rfl
   have e1:=hB9.out.cell (i:=1) rfl
   have e2:=hB9.out.cell (i:=2) rfl
   have e3:=hB9.out.cell (i:=3) rfl
   have e4:=hB9.out.cell (i:=4) rfl
   have e5:=hB9.out.cell (i:=5) rfl
   refine bodyPost_ret (v:=.tuple #[rval Rc.none,.int .i64 3]) (by simp [results,Tryz.results197,go_sem,e0,e1,e2,e3,e4,e5]) rfl ?_
   exact⟨by rw [hG],ho9.out.below HL8.out (Nat.le_refl _) HL8.out.size⟩
  ·have hG:getR xs=(rcOf xs,0):=by rw [HG.out,if_pos (HBR.out.1 rfl)]
   go_wp2_with (first
    | (refine wpList_load_blk rfl 64 _ rfl (w.heap.size+1) rfl H18.out Tryz.underlying64 rfl size_rec ?_)
    | (refine wpList_store_blk rfl 64 (.tmp 2) (.tmp 19) rfl w.heap.size rfl (rcells (rcOf xs)) rfl H08.out rfl size_rec (one_r _) ?_;intro w9 hB9 ho9))
   have e0:=hB9.out.cell (i:=0) rfl
   have e1:=hB9.out.cell (i:=1) rfl
   have e2:=hB9.out.cell (i:=2) rfl
   have e3:=hB9.out.cell (i:=3) rfl
   have e4:=hB9.out.cell (i:=4) rfl
   have e5:=hB9.out.cell (i:=5) rfl
   refine bodyPost_ret (v:=.tuple #[rval (rcOf xs),.int .i64 0]) (by simp [results,Tryz.results197,go_sem,rcOf,e0,e1,e2,e3,e4,e5]) rfl ?_
   exact⟨by rw [hG],ho9.out.below HL8.out (Nat.le_refl _) HL8.out.size⟩
 ·have HG:=Hz (show getR xs=(Rc.none,x) from by unfold getR;rw [←HXW.out,if_pos hx0])
  have hxb:(x != 0)=true:=by simpa using hx0
  go_wp2_with (refine wpList_store_blk rfl 64 (.tmp 2) (.tmp 13) rfl w.heap.size rfl (rcells Rc.none) rfl H04.out rfl size_rec (one_r _) ?_;intro w9 hB9 ho9)
  have e0:=hB9.out.cell (i:=0) rfl
  have e1:=hB9.out.cell (i:=1) rfl
  have e2:=hB9.out.cell (i:=2) rfl
  have e3:=hB9.out.cell (i:=3) rfl
  have e4:=hB9.out.cell (i:=4) rfl
  have e5:=hB9.out.cell (i:=5) rfl
  refine bodyPost_ret (v:=.tuple #[rval Rc.none,.int .i64 x]) (by simp [results,Tryz.results197,go_sem,e0,e1,e2,e3,e4,e5]) rfl ?_
  exact⟨by rw [HG.out],ho9.out.below HL4.out (Nat.le_refl _) HL4.out.size⟩
theorem sput_no (r:Sg) (w:World) (hk:sok r) (hr : ¬r.right):Calls Tryz.prog 128 #[sval r] w (Gets w (.slice none 0 0) 3):=by
 have HR:=Hz (fun w'=>rights_any r w' hk false (by simpa using hr))
 have HX:=Hz (Bx.new w 80 (scells r))
 clear hr hk
 obtain⟨s,z,h⟩:=r
 show Calls _ _ #[.agg #[.int .i64 s,.int .i64 z,.int .i64 h]] w _
 go_enter Tryz.func128,Tryz.ntmps128
 go_wp2_with fail
 refine (HR.out _).mono ?_
 rintro e w1 ⟨rfl,hb1⟩
 have HX1:=Hz (HX.out.step hb1)
 clear hb1 HX
 go_wp2
 go_ret2
 exact⟨rfl,HX1.out.bel⟩
theorem sput_yes (r:Sg) (w:World) (hk:sok r) (hr:r.right):Calls Tryz.prog 128 #[sval r] w (Puts w (shut r.bytes)):=by
 have HR:=Hz (fun w'=>rights_any r w' hk true (by simpa using hr))
 have HX:=Hz (Bx.new w 80 (scells r))
 have HT:=Hz (sF_told r)
 have HL:=Hz (sF_len r)
 have HS:=Hz (fun g gb t' t2 w'=>sector_any { data:=#[76,83] } 83 mark_s (by omega) (sF r) g gb 3 t' t2 w' rfl (by omega) (by omega))
 clear hr hk
 obtain⟨s,z,h⟩:=r
 show Calls _ _ #[.agg #[.int .i64 s,.int .i64 z,.int .i64 h]] w _
 go_enter Tryz.func128,Tryz.ntmps128
 go_wp2_with fail
 refine (HR.out _).mono ?_
 rintro e w1 ⟨rfl,hb1⟩
 have HX1:=Hz (HX.out.step hb1)
 clear hb1 HX
 go_wp2_with fail
 refine (ofStage_any w.heap.size w1).mono ?_
 rintro e w2 ⟨rfl,hb2⟩
 have HX2:=Hz (HX1.out.step hb2)
 have hs2:=HX2.out.bel.size
 clear hb2 HX1
 go_wp2_with (refine wpList_store_blk rfl 253 (.tmp 4) (.tmp 8) rfl w2.heap.size rfl (fcells w.heap.size sws) rfl (Blk.new w2 253 [.pointer none,.int .i64 0,.pointer none,.int .i64 0,.pointer none,.int .i64 0]) (by rw [fcells_len];rfl) (by rw [fcells_len];exact size_f3) (fcells_one _ _) ?_;intro w3 hB3 ho3)
 have HL3:=Hz (show Below w2.heap.size w2 w3 from ho3.out.below ((Below.refl _ _).alloc (Nat.le_refl _) _) (Nat.le_refl _) (by simp))
 have HX3:=Hz (HX2.out.step HL3.out)
 refine (HS.out w.heap.size w2.heap.size _ _ w3 hB3.out HX3.out.blk (by have:=HL.out;omega) _ HT.out).mono ?_
 rintro e w4 ⟨B,k,d,rfl,hown,hb4⟩
 have HO4:=Hz (own_mono hown HX3.out.bel.size)
 have HL4:=Hz (HX3.out.bel.trans (hb4.mono HX3.out.bel.size))
 clear hown hb4
 go_wp2
 go_ret2
 exact⟨B,k,d,rfl,HO4.out,HL4.out⟩
theorem sget_any (A:Option Addr) (n c:Nat) (xs:List Nat) (w:World) (hR:Rd w A n c (u8n xs)) (hb:byt xs) :
 Calls Tryz.prog 155 #[.slice A n c] w (Gets w (sval (getS xs).1) (getS xs).2):=by
 have HR:=Hz hR
 have HBY:=Hz hb
 have HL0:=Hz (fun g gb t' t2 (V:List Int) w' (h:Rd w' A n c (u8n xs)) (hV:V.length=3)=>lay_any A n c xs { data:=#[76,83] } 83 sws V g gb 3 8 t' t2 w' h hb mark_s (by omega) rfl hV (by omega) (by omega) (by intro x hx;simp [sws] at hx;omega) rfl (by omega))
 have hB0:=Blk.new w 80 (scells Sg.none)
 have hl0:Below w.heap.size w (w.alloc (.cells (scells Sg.none).toArray 80)):=(Below.refl _ _).alloc (Nat.le_refl _) _
 have hB1:=Blk.new (w.alloc (.cells (scells Sg.none).toArray 80)) 80 (scells Sg.none)
 have hs1:(w.alloc (.cells (scells Sg.none).toArray 80)).heap.size=w.heap.size+1:=by simp
 rw [hs1] at hB1
 have hB0':=hB0.alloc (.cells (scells Sg.none).toArray 80)
 have hl1:Below w.heap.size w ((w.alloc (.cells (scells Sg.none).toArray 80)).alloc (.cells (scells Sg.none).toArray 80)):=hl0.alloc (by rw [hs1];omega) _
 have H0:=Hz hB0'
 have H1:=Hz hB1
 have HL1:=Hz hl1
 obtain⟨x,hx⟩:∃x,x=wrong 83 8 xs:=⟨_,rfl⟩
 have HXW:=Hz hx
 rw [←hx] at HL0
 clear hB0 hB0' hB1 hl0 hl1 hs1 hR hb hx
 obtain⟨w1,hw1⟩:∃w1,w1=((w.alloc (.cells (scells Sg.none).toArray 80)).alloc (.cells (scells Sg.none).toArray 80)):=⟨_,rfl⟩
 rw [←hw1] at H0 H1 HL1
 have hw1':((w.alloc (.cells #[.int .i64 0,.int .i64 0,.int .i64 0] 80)).alloc (.cells #[.int .i64 0,.int .i64 0,.int .i64 0] 80))=w1:=hw1.symm
 have HW1:=Hz hw1'
 clear hw1 hw1'
 go_enter Tryz.func155,Tryz.ntmps155
 go_wp2_with fail
 rw [HW1.out]
 clear HW1
 refine (ofStage_any (w.heap.size+1) w1).mono ?_
 rintro e w2 ⟨rfl,hb2⟩
 have H02:=Hz (H0.out.below hb2)
 have H12:=Hz (H1.out.below hb2)
 have HL2:=Hz (HL1.out.trans (hb2.mono HL1.out.size))
 have hs2:=HL2.out.size
 have hg1:=H12.out.lt
 clear hb2 H0 H1 HL1
 go_wp2_with (refine wpList_store_blk rfl 253 (.tmp 5) (.tmp 7) rfl w2.heap.size rfl (fcells (w.heap.size+1) sws) rfl (Blk.new w2 253 [.pointer none,.int .i64 0,.pointer none,.int .i64 0,.pointer none,.int .i64 0]) (by rw [fcells_len];rfl) (by rw [fcells_len];exact size_f3) (fcells_one _ _) ?_;intro w3 hB3 ho3)
 have hl3:Below w2.heap.size w2 w3:=ho3.out.below ((Below.refl _ _).alloc (Nat.le_refl _) _) (Nat.le_refl _) (by simp)
 have H03:=Hz (H02.out.below hl3)
 have H13:=Hz (H12.out.below hl3)
 have HL3:=Hz (HL2.out.trans (hl3.mono hs2))
 clear hl3 ho3 H02 H12 HL2
 refine (HL0.out (w.heap.size+1) w2.heap.size _ _ [0,0,0] w3 (HR.out.below HL3.out) rfl hB3.out H13.out (by omega)).mono ?_
 rintro e w4 ⟨rfl,hy,hno,hk4⟩
 have H04:=Hz (hk4.blk H03.out (by show ¬w.heap.size=w.heap.size+1;omega))
 have HL4:=Hz (show Below w.heap.size w w4 from HL3.out.trans (hk4.below (B:=w.heap.size) (fun k hk=>by rw [show k=w.heap.size+1 from hk];omega) HL3.out.size))
 have HY:=Hz hy
 clear hy hno hk4 hB3 H03 H13 HL3 HL0
 by_cases hx0:x=0
 ·subst hx0
  have H14:=Hz (show Blk w4 (w.heap.size+1) 80 (scells (sgOf xs)) from by rw [←numsOf_s];exact HY.out rfl)
  have HG:=Hz (show getS xs=if (sgOf xs).right then (sgOf xs,0) else (Sg.none,3) from by unfold getS;rw [←HXW.out,if_neg (by simp)])
  have HK:=Hz (show sok (sgOf xs) from⟨RecF.n64_of HBY.out 2 2 (by omega),RecF.n64_of HBY.out 4 2 (by omega),RecF.n64_of HBY.out 6 2 (by omega)⟩)
  obtain⟨br,hbr⟩:=bool_of (sgOf xs).right
  have HBR:=Hz hbr
  clear hbr HY
  go_wp2_with (refine wpList_load_blk rfl 80 _ rfl (w.heap.size+1) rfl H14.out Tryz.underlying80 rfl size_stg ?_)
  refine (rights_any (sgOf xs) _ HK.out br HBR.out).mono ?_
  rintro e w8 ⟨rfl,hb8⟩
  have H08:=Hz (H04.out.below hb8)
  have H18:=Hz (H14.out.below hb8)
  have HL8:=Hz (HL4.out.trans (hb8.mono HL4.out.size))
  clear hb8 H04 H14 HL4
  cases br
  ·have hG:getS xs=(Sg.none,3):=by rw [HG.out,if_neg (fun h=>by have:=HBR.out.2 h;cases this)]
   go_wp2_with (refine wpList_store_blk rfl 80 (.tmp 2) (.tmp 18) rfl w.heap.size rfl (scells Sg.none) rfl H08.out rfl size_stg (one_s _) ?_;intro w9 hB9 ho9)
   have e0:=hB9.out.cell (i:=0) rfl
   have e1:=hB9.out.cell (i:=1) rfl
   have e2:=hB9.out.cell (i:=2) rfl
   refine bodyPost_ret (v:=.tuple #[sval Sg.none,.int .i64 3]) (by simp [results,Tryz.results155,go_sem,e0,e1,e2]) rfl ?_
   exact⟨by rw [hG],ho9.out.below HL8.out (Nat.le_refl _) HL8.out.size⟩
  ·have hG:getS xs=(sgOf xs,0):=by rw [HG.out,if_pos (HBR.out.1 rfl)]
   go_wp2_with (first
    | (refine wpList_load_blk rfl 80 _ rfl (w.heap.size+1) rfl H18.out Tryz.underlying80 rfl size_stg ?_)
    | (refine wpList_store_blk rfl 80 (.tmp 2) (.tmp 19) rfl w.heap.size rfl (scells (sgOf xs)) rfl H08.out rfl size_stg (one_s _) ?_;intro w9 hB9 ho9))
   have e0:=hB9.out.cell (i:=0) rfl
   have e1:=hB9.out.cell (i:=1) rfl
   have e2:=hB9.out.cell (i:=2) rfl
   refine bodyPost_ret (v:=.tuple #[sval (sgOf xs),.int .i64 0]) (by simp [results,Tryz.results155,go_sem,sgOf,e0,e1,e2]) rfl ?_
   exact⟨by rw [hG],ho9.out.below HL8.out (Nat.le_refl _) HL8.out.size⟩
 ·have HG:=Hz (show getS xs=(Sg.none,x) from by unfold getS;rw [←HXW.out,if_pos hx0])
  have hxb:(x != 0)=true:=by simpa using hx0
  go_wp2_with (refine wpList_store_blk rfl 80 (.tmp 2) (.tmp 13) rfl w.heap.size rfl (scells Sg.none) rfl H04.out rfl size_stg (one_s _) ?_;intro w9 hB9 ho9)
  have e0:=hB9.out.cell (i:=0) rfl
  have e1:=hB9.out.cell (i:=1) rfl
  have e2:=hB9.out.cell (i:=2) rfl
  refine bodyPost_ret (v:=.tuple #[sval Sg.none,.int .i64 x]) (by simp [results,Tryz.results155,go_sem,e0,e1,e2]) rfl ?_
  exact⟨by rw [HG.out],ho9.out.below HL4.out (Nat.le_refl _) HL4.out.size⟩
end RecN
namespace PlaM
open Go.RowKit Kit
def n64 (x:Int):Prop:=-9223372036854775808≤x∧x≤9223372036854775807
theorem below_drewN {B:Nat} {w w':World} (h:Below B w w') (n:Nat):Below B w (w'.drewN n):=⟨h.os,h.tape,h.output,h.size,h.block⟩
def sec (n:Int):Int:=if n<1 then 10 else if 4<n then 40 else 10*n
def fnd (p n:Int):Int:=if p<0∨3<p then -1 else 10*p+n
def rC (p c:Int):Int:=if c=0∨c=1 then fnd p c else -1
def rS (p s:Int):Int:=if s=0 then fnd p 2 else if s=1 then fnd p 6 else -1
def rD (p s i:Int):Int:=if rS p s<0∨i<0∨2<i then -1 else rS p s+1+i
def tv (x:Int):Int:=if x<0 then 0 else x
def tb (x:Int):Bool:=decide (0≤x)
theorem ret_i {a b:Int} (h:a=b):Ending.returned (.int .i64 a)=.returned (.int .i64 b):=by rw [h]
end PlaM
namespace PlaM
open Go.RowKit Kit
theorem rsec_any (n:Int) (w:World):Calls Tryz.prog 31 #[.int .i64 n] w fun e w'=>e=.returned (.int .i64 (sec n))∧w=w':=by
 by_cases h1:n<1
 ·have H:=Hz (show 10=sec n from by unfold sec;rw [if_pos h1])
  go_enter Tryz.func31,Tryz.ntmps31
  go_wp2
  go_ret
  exact⟨ret_i H.out,rfl⟩
 ·by_cases h4:4<n
  ·have H:=Hz (show 40=sec n from by unfold sec;rw [if_neg h1,if_pos h4])
   go_enter Tryz.func31,Tryz.ntmps31
   go_wp2
   go_ret
   exact⟨ret_i H.out,rfl⟩
  ·have H:=Hz (show 10*n=sec n from by unfold sec;rw [if_neg h1,if_neg h4])
   go_enter Tryz.func31,Tryz.ntmps31
   go_wp2
   go_ret
   exact⟨ret_i H.out,rfl⟩
end PlaM
end Go.Proofs.YtkepomnbhnnliaaGreatDoor
