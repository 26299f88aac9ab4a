/- Parts of the proof, each under the conditions that it names. -/
import Derived.Test.YtpidbddllnidhaaGreatDoorO20
set_option maxRecDepth 100000
set_option maxHeartbeats 12800000
namespace Go.Proofs.YtpidbddllnidhaaGreatDoor
open Go.RowKit
namespace CpaN4
open Mem CpaN0
open TabA (Tri Ta Tris)
open TabB (Yes)
open ImgA (Im)
def kcells:List Value:=[.func (.func 104) #[] #[],.int .i64 9,.func (.func 105) #[] #[],.int .i64 3,.func (.func 106) #[] #[],.int .i64 3,.func (.func 107) #[] #[],.int .i64 12,.func (.func 108) #[] #[],.int .i64 14,.func (.func 109) #[] #[],.int .i64 15,.func (.func 110) #[] #[],.int .i64 13]
theorem stf (a:Addr) (f:Fn) (c r:Array Value) (m:Mode) (w:World):(store a (.func f c r) m).run Tryz.prog w=stored Tryz.prog w a (.func f c r) m:=run_store _ w a _ m rfl
theorem checks_any (w:World):Calls Tryz.prog 63 #[] w fun e w'=>∃g,e=.returned (.slice (some ⟨g,0,none⟩) 7 7)∧Blk w' g 136 kcells∧w.heap.size≤g∧Bw w w':=by
 go_enter Tryz.func63,Tryz.ntmps63
 go_wp2_with fail
 go_ret
 exact⟨_,rfl,Blk.new w _ kcells,Mr _,(Mb _ _).alloc (Mr _) _⟩
def ans (c0 c1 c2 c3 c4 c5 c6:Bool):Int:=if c0=false then 9 else if c1=false then 3 else if c2=false then 3 else if c3=false then 12 else if c4=false then 14 else if c5=false then 15 else if c6=false then 13 else 0
def Hold (c0 c1 c2 c3 c4 c5 c6:Bool) (k:Nat):Prop:=(1≤k→c0=true)∧(2≤k→c1=true)∧(3≤k→c2=true)∧(4≤k→c3=true)∧(5≤k→c4=true)∧(6≤k→c5=true)∧(7≤k→c6=true)
theorem ans_0 {c0 c1 c2 c3 c4 c5 c6:Bool} (h:Hold c0 c1 c2 c3 c4 c5 c6 0) (hf:c0=false):ans c0 c1 c2 c3 c4 c5 c6=9:=by
 obtain⟨h0,h1,h2,h3,h4,h5,h6⟩:=h
 unfold ans
 rw [if_pos hf]
theorem ans_1 {c0 c1 c2 c3 c4 c5 c6:Bool} (h:Hold c0 c1 c2 c3 c4 c5 c6 1) (hf:c1=false):ans c0 c1 c2 c3 c4 c5 c6=3:=by
 obtain⟨h0,h1,h2,h3,h4,h5,h6⟩:=h
 unfold ans
 rw [if_neg (by rw [h0 (by omega)];simp)]
 rw [if_pos hf]
theorem ans_2 {c0 c1 c2 c3 c4 c5 c6:Bool} (h:Hold c0 c1 c2 c3 c4 c5 c6 2) (hf:c2=false):ans c0 c1 c2 c3 c4 c5 c6=3:=by
 obtain⟨h0,h1,h2,h3,h4,h5,h6⟩:=h
 unfold ans
 rw [if_neg (by rw [h0 (by omega)];simp)]
 rw [if_neg (by rw [h1 (by omega)];simp)]
 rw [if_pos hf]
theorem ans_3 {c0 c1 c2 c3 c4 c5 c6:Bool} (h:Hold c0 c1 c2 c3 c4 c5 c6 3) (hf:c3=false):ans c0 c1 c2 c3 c4 c5 c6=12:=by
 obtain⟨h0,h1,h2,h3,h4,h5,h6⟩:=h
 unfold ans
 rw [if_neg (by rw [h0 (by omega)];simp)]
 rw [if_neg (by rw [h1 (by omega)];simp)]
 rw [if_neg (by rw [h2 (by omega)];simp)]
 rw [if_pos hf]
theorem ans_4 {c0 c1 c2 c3 c4 c5 c6:Bool} (h:Hold c0 c1 c2 c3 c4 c5 c6 4) (hf:c4=false):ans c0 c1 c2 c3 c4 c5 c6=14:=by
 obtain⟨h0,h1,h2,h3,h4,h5,h6⟩:=h
 unfold ans
 rw [if_neg (by rw [h0 (by omega)];simp)]
 rw [if_neg (by rw [h1 (by omega)];simp)]
 rw [if_neg (by rw [h2 (by omega)];simp)]
 rw [if_neg (by rw [h3 (by omega)];simp)]
 rw [if_pos hf]
theorem ans_5 {c0 c1 c2 c3 c4 c5 c6:Bool} (h:Hold c0 c1 c2 c3 c4 c5 c6 5) (hf:c5=false):ans c0 c1 c2 c3 c4 c5 c6=15:=by
 obtain⟨h0,h1,h2,h3,h4,h5,h6⟩:=h
 unfold ans
 rw [if_neg (by rw [h0 (by omega)];simp)]
 rw [if_neg (by rw [h1 (by omega)];simp)]
 rw [if_neg (by rw [h2 (by omega)];simp)]
 rw [if_neg (by rw [h3 (by omega)];simp)]
 rw [if_neg (by rw [h4 (by omega)];simp)]
 rw [if_pos hf]
theorem ans_6 {c0 c1 c2 c3 c4 c5 c6:Bool} (h:Hold c0 c1 c2 c3 c4 c5 c6 6) (hf:c6=false):ans c0 c1 c2 c3 c4 c5 c6=13:=by
 obtain⟨h0,h1,h2,h3,h4,h5,h6⟩:=h
 unfold ans
 rw [if_neg (by rw [h0 (by omega)];simp)]
 rw [if_neg (by rw [h1 (by omega)];simp)]
 rw [if_neg (by rw [h2 (by omega)];simp)]
 rw [if_neg (by rw [h3 (by omega)];simp)]
 rw [if_neg (by rw [h4 (by omega)];simp)]
 rw [if_neg (by rw [h5 (by omega)];simp)]
 rw [if_pos hf]
theorem ans_7 {c0 c1 c2 c3 c4 c5 c6:Bool} (h:Hold c0 c1 c2 c3 c4 c5 c6 7):ans c0 c1 c2 c3 c4 c5 c6=0:=by
 obtain⟨h0,h1,h2,h3,h4,h5,h6⟩:=h
 unfold ans
 rw [if_neg (by rw [h0 (by omega)];simp)]
 rw [if_neg (by rw [h1 (by omega)];simp)]
 rw [if_neg (by rw [h2 (by omega)];simp)]
 rw [if_neg (by rw [h3 (by omega)];simp)]
 rw [if_neg (by rw [h4 (by omega)];simp)]
 rw [if_neg (by rw [h5 (by omega)];simp)]
 rw [if_neg (by rw [h6 (by omega)];simp)]
theorem Hold.zero {c0 c1 c2 c3 c4 c5 c6:Bool}:Hold c0 c1 c2 c3 c4 c5 c6 0:=⟨fun h=>absurd h (by omega),fun h=>absurd h (by omega),fun h=>absurd h (by omega),fun h=>absurd h (by omega),fun h=>absurd h (by omega),fun h=>absurd h (by omega),fun h=>absurd h (by omega)⟩
theorem Hold.s0 {c0 c1 c2 c3 c4 c5 c6:Bool} (h:Hold c0 c1 c2 c3 c4 c5 c6 0) (hf:c0=true):Hold c0 c1 c2 c3 c4 c5 c6 1:=by
 obtain⟨h0,h1,h2,h3,h4,h5,h6⟩:=h
 exact⟨fun _=>hf,fun h=>absurd h (by omega),fun h=>absurd h (by omega),fun h=>absurd h (by omega),fun h=>absurd h (by omega),fun h=>absurd h (by omega),fun h=>absurd h (by omega)⟩
theorem Hold.s1 {c0 c1 c2 c3 c4 c5 c6:Bool} (h:Hold c0 c1 c2 c3 c4 c5 c6 1) (hf:c1=true):Hold c0 c1 c2 c3 c4 c5 c6 2:=by
 obtain⟨h0,h1,h2,h3,h4,h5,h6⟩:=h
 exact⟨fun _=>h0 (by omega),fun _=>hf,fun h=>absurd h (by omega),fun h=>absurd h (by omega),fun h=>absurd h (by omega),fun h=>absurd h (by omega),fun h=>absurd h (by omega)⟩
theorem Hold.s2 {c0 c1 c2 c3 c4 c5 c6:Bool} (h:Hold c0 c1 c2 c3 c4 c5 c6 2) (hf:c2=true):Hold c0 c1 c2 c3 c4 c5 c6 3:=by
 obtain⟨h0,h1,h2,h3,h4,h5,h6⟩:=h
 exact⟨fun _=>h0 (by omega),fun _=>h1 (by omega),fun _=>hf,fun h=>absurd h (by omega),fun h=>absurd h (by omega),fun h=>absurd h (by omega),fun h=>absurd h (by omega)⟩
theorem Hold.s3 {c0 c1 c2 c3 c4 c5 c6:Bool} (h:Hold c0 c1 c2 c3 c4 c5 c6 3) (hf:c3=true):Hold c0 c1 c2 c3 c4 c5 c6 4:=by
 obtain⟨h0,h1,h2,h3,h4,h5,h6⟩:=h
 exact⟨fun _=>h0 (by omega),fun _=>h1 (by omega),fun _=>h2 (by omega),fun _=>hf,fun h=>absurd h (by omega),fun h=>absurd h (by omega),fun h=>absurd h (by omega)⟩
theorem Hold.s4 {c0 c1 c2 c3 c4 c5 c6:Bool} (h:Hold c0 c1 c2 c3 c4 c5 c6 4) (hf:c4=true):Hold c0 c1 c2 c3 c4 c5 c6 5:=by
 obtain⟨h0,h1,h2,h3,h4,h5,h6⟩:=h
 exact⟨fun _=>h0 (by omega),fun _=>h1 (by omega),fun _=>h2 (by omega),fun _=>h3 (by omega),fun _=>hf,fun h=>absurd h (by omega),fun h=>absurd h (by omega)⟩
theorem Hold.s5 {c0 c1 c2 c3 c4 c5 c6:Bool} (h:Hold c0 c1 c2 c3 c4 c5 c6 5) (hf:c5=true):Hold c0 c1 c2 c3 c4 c5 c6 6:=by
 obtain⟨h0,h1,h2,h3,h4,h5,h6⟩:=h
 exact⟨fun _=>h0 (by omega),fun _=>h1 (by omega),fun _=>h2 (by omega),fun _=>h3 (by omega),fun _=>h4 (by omega),fun _=>hf,fun h=>absurd h (by omega)⟩
theorem Hold.s6 {c0 c1 c2 c3 c4 c5 c6:Bool} (h:Hold c0 c1 c2 c3 c4 c5 c6 6) (hf:c6=true):Hold c0 c1 c2 c3 c4 c5 c6 7:=by
 obtain⟨h0,h1,h2,h3,h4,h5,h6⟩:=h
 exact⟨fun _=>h0 (by omega),fun _=>h1 (by omega),fun _=>h2 (by omega),fun _=>h3 (by omega),fun _=>h4 (by omega),fun _=>h5 (by omega),fun _=>hf⟩
theorem ret_e {a b:Int} (h:a=b):Ending.returned (.int .i64 a)=.returned (.int .i64 b):=by rw [h]
theorem core (t:Ta) (p v:Int) (i:Im) (w:World) (c0 c1 c2 c3 c4 c5 c6:Bool)
 (H0:∀w',Bw w w'→Hold c0 c1 c2 c3 c4 c5 c6 0→Calls Tryz.prog 104 #[qval t p i v] w' (Yes w' c0))
 (H1:∀w',Bw w w'→Hold c0 c1 c2 c3 c4 c5 c6 1→Calls Tryz.prog 105 #[qval t p i v] w' (Yes w' c1))
 (H2:∀w',Bw w w'→Hold c0 c1 c2 c3 c4 c5 c6 2→Calls Tryz.prog 106 #[qval t p i v] w' (Yes w' c2))
 (H3:∀w',Bw w w'→Hold c0 c1 c2 c3 c4 c5 c6 3→Calls Tryz.prog 107 #[qval t p i v] w' (Yes w' c3))
 (H4:∀w',Bw w w'→Hold c0 c1 c2 c3 c4 c5 c6 4→Calls Tryz.prog 108 #[qval t p i v] w' (Yes w' c4))
 (H5:∀w',Bw w w'→Hold c0 c1 c2 c3 c4 c5 c6 5→Calls Tryz.prog 109 #[qval t p i v] w' (Yes w' c5))
 (H6:∀w',Bw w w'→Hold c0 c1 c2 c3 c4 c5 c6 6→Calls Tryz.prog 110 #[qval t p i v] w' (Yes w' c6))
 : Calls Tryz.prog 28 #[t.val,.int .i64 p,i.val,.int .i64 v] w fun e w'=>e=.returned (.int .i64 (ans c0 c1 c2 c3 c4 c5 c6))∧Bw w w':=by
 have G0:=Hz H0
 have G1:=Hz H1
 have G2:=Hz H2
 have G3:=Hz H3
 have G4:=Hz H4
 have G5:=Hz H5
 have G6:=Hz H6
 have HA:=Hz (show ∀x,ans c0 c1 c2 c3 c4 c5 c6=x→ans c0 c1 c2 c3 c4 c5 c6=x from fun _ h=>h)
 have E0:=Hz (@ans_0 c0 c1 c2 c3 c4 c5 c6)
 have E1:=Hz (@ans_1 c0 c1 c2 c3 c4 c5 c6)
 have E2:=Hz (@ans_2 c0 c1 c2 c3 c4 c5 c6)
 have E3:=Hz (@ans_3 c0 c1 c2 c3 c4 c5 c6)
 have E4:=Hz (@ans_4 c0 c1 c2 c3 c4 c5 c6)
 have E5:=Hz (@ans_5 c0 c1 c2 c3 c4 c5 c6)
 have E6:=Hz (@ans_6 c0 c1 c2 c3 c4 c5 c6)
 have E7:=Hz (@ans_7 c0 c1 c2 c3 c4 c5 c6)
 generalize ans c0 c1 c2 c3 c4 c5 c6=out at *
 clear H0 H1 H2 H3 H4 H5 H6 HA
 obtain⟨fr,A1,n1,c1_,P,A2,n2,c2_,W,A3,n3,c3_,C,tr⟩:=t
 obtain⟨ip,iv,ih,im,if_,is_,ir,iA,in_,ic,ixs⟩:=i
 show Calls _ _ #[.agg #[.int .i64 fr,.slice A1 n1 c1_,.slice A2 n2 c2_,.slice A3 n3 c3_,.int .i64 tr],.int .i64 p,.agg #[.int .i64 ip,.int .i64 iv,.int .i64 ih,.int .i64 im,.int .i64 if_,.int .i64 is_,.int .i64 ir,.slice iA in_ ic],.int .i64 v] w _
 have e1:∀a b:Obj,((w.alloc a).alloc b).heap.size=w.heap.size+1+1:=fun a b=>by simp
 have HQ:=Hz (show Rq w (w.heap.size+1+1) ⟨fr,A1,n1,c1_,P,A2,n2,c2_,W,A3,n3,c3_,C,tr⟩ p ⟨ip,iv,ih,im,if_,is_,ir,iA,in_,ic,ixs⟩ v (((w.alloc (.cells #[.int .i64 fr,.slice A1 n1 c1_,.slice A2 n2 c2_,.slice A3 n3 c3_,.int .i64 tr] 26)).alloc (.cells #[.int .i64 ip,.int .i64 iv,.int .i64 ih,.int .i64 im,.int .i64 if_,.int .i64 is_,.int .i64 ir,.slice iA in_ ic] 33)).alloc (.cells #[.int .i64 fr,.slice A1 n1 c1_,.slice A2 n2 c2_,.slice A3 n3 c3_,.int .i64 tr,.int .i64 p,.int .i64 ip,.int .i64 iv,.int .i64 ih,.int .i64 im,.int .i64 if_,.int .i64 is_,.int .i64 ir,.slice iA in_ ic,.int .i64 v] 131)) from
  ⟨by rw [←e1 (.cells #[.int .i64 fr,.slice A1 n1 c1_,.slice A2 n2 c2_,.slice A3 n3 c3_,.int .i64 tr] 26) (.cells #[.int .i64 ip,.int .i64 iv,.int .i64 ih,.int .i64 im,.int .i64 if_,.int .i64 is_,.int .i64 ir,.slice iA in_ ic] 33)];exact Blk.new _ _ (qcells ⟨fr,A1,n1,c1_,P,A2,n2,c2_,W,A3,n3,c3_,C,tr⟩ p ⟨ip,iv,ih,im,if_,is_,ir,iA,in_,ic,ixs⟩ v),by omega,(((Mb _ _).alloc (Mr _) _).alloc (by simp) _).alloc (by rw [e1];omega) _⟩)
 clear e1
 go_enter Tryz.func28,Tryz.ntmps28
 go_upto_region 2 with (fail)
 obtain⟨wB,hwB⟩:∃wB,wB=(((w.alloc (.cells #[.int .i64 fr,.slice A1 n1 c1_,.slice A2 n2 c2_,.slice A3 n3 c3_,.int .i64 tr] 26)).alloc (.cells #[.int .i64 ip,.int .i64 iv,.int .i64 ih,.int .i64 im,.int .i64 if_,.int .i64 is_,.int .i64 ir,.slice iA in_ ic] 33)).alloc (.cells #[.int .i64 fr,.slice A1 n1 c1_,.slice A2 n2 c2_,.slice A3 n3 c3_,.int .i64 tr,.int .i64 p,.int .i64 ip,.int .i64 iv,.int .i64 ih,.int .i64 im,.int .i64 if_,.int .i64 is_,.int .i64 ir,.slice iA in_ ic,.int .i64 v] 131)):=⟨_,rfl⟩
 rw [←hwB] at HQ ⊢
 clear hwB
 go_wp2_with (go_at_call 63;refine (checks_any _).mono ?_;rintro e w2 ⟨g,rfl,hk,_,hb2⟩;have HQ2:=Hz (HQ.o.below hb2);have HK2:=Hz hk;clear hk hb2)
 clear HQ
 go_loopw [19] (fun j wr=>∃k:Nat,k≤7∧j=.int .i64 k∧Hid (Hold c0 c1 c2 c3 c4 c5 c6 k)∧Hid (Rq w (w.heap.size+1+1) ⟨fr,A1,n1,c1_,P,A2,n2,c2_,W,A3,n3,c3_,C,tr⟩ p ⟨ip,iv,ih,im,if_,is_,ir,iA,in_,ic,ixs⟩ v wr)∧Hid (Blk wr g 136 kcells)) (fun j _=>7-(intOf j).toNat)
 case atStart=>exact⟨0,by omega,rfl,Hz Hold.zero,HQ2,HK2⟩
 case round=>
  obtain⟨k,hk,rfl,HH,HQ3,HK3⟩:=hrel
  clear HQ2 HK2
  obtain⟨⟨a0,a1,a2,a3,a4⟩,a5,⟨b0,b1,b2,b3,b4,b5,b6,b7⟩,b8⟩:=HQ3.o.cell
  have hgl:=HK3.o.lt
  have hst:=stf
  have hql:=HQ3.o.qb.lt
  match k,hk,HH with
  | 0,_,HH=>
    have z0:wr.cell? ⟨g,0,none⟩=some (.func (.func 104) #[] #[]):=HK3.o.cell rfl
    have z1:wr.cell? ⟨g,1,none⟩=some (.int .i64 9):=HK3.o.cell rfl
    by_cases hc:c0=true
    ·skip
     have HC:=Hz (HH.o.s0 hc)
     have GJ:=Hz (show ∀w',Bw w w'→Calls Tryz.prog 104 #[.agg #[.int .i64 fr,.slice A1 n1 c1_,.slice A2 n2 c2_,.slice A3 n3 c3_,.int .i64 tr,.int .i64 p,.int .i64 ip,.int .i64 iv,.int .i64 ih,.int .i64 im,.int .i64 if_,.int .i64 is_,.int .i64 ir,.slice iA in_ ic,.int .i64 v]] w' (Yes w' true) from fun w' hb=>by have h:=G0.o w' hb HH.o;rw [hc] at h;exact h)
     clear hc
     go_wp2_with (go_at_call 104;refine (GJ.o _ (HQ3.o.alloc _).bel).mono ?_;rintro e w4 ⟨rfl,hb4⟩;have HQ4:=Hz ((HQ3.o.alloc _).below hb4);have HK4:=Hz ((HK3.o.alloc _).below hb4);clear hb4)
     go_roundw
     case rel=>exact⟨1,by omega,by go_num,HC,HQ4,HK4⟩
     case measure=>simp [intOf]
    ·have hc:c0=false:=by simpa using hc
     have HE:=Hz (E0.o HH.o hc)
     have GJ:=Hz (show ∀w',Bw w w'→Calls Tryz.prog 104 #[.agg #[.int .i64 fr,.slice A1 n1 c1_,.slice A2 n2 c2_,.slice A3 n3 c3_,.int .i64 tr,.int .i64 p,.int .i64 ip,.int .i64 iv,.int .i64 ih,.int .i64 im,.int .i64 if_,.int .i64 is_,.int .i64 ir,.slice iA in_ ic,.int .i64 v]] w' (Yes w' false) from fun w' hb=>by have h:=G0.o w' hb HH.o;rw [hc] at h;exact h)
     clear hc
     go_wp2_with (go_at_call 104;refine (GJ.o _ (HQ3.o.alloc _).bel).mono ?_;rintro e w4 ⟨rfl,hb4⟩;have HQ4:=Hz ((HQ3.o.alloc _).below hb4);have zf:w4.cell? ⟨wr.heap.size,1,none⟩=some (.int .i64 9):=((Blk.new wr 136 [.func (.func 104) #[] #[],.int .i64 9]).below hb4).cell rfl;clear hb4)
     go_ret
     exact⟨ret_e HE.o.symm,HQ4.o.bel⟩
  | 1,_,HH=>
    have z0:wr.cell? ⟨g,2,none⟩=some (.func (.func 105) #[] #[]):=HK3.o.cell rfl
    have z1:wr.cell? ⟨g,3,none⟩=some (.int .i64 3):=HK3.o.cell rfl
    by_cases hc:c1=true
    ·skip
     have HC:=Hz (HH.o.s1 hc)
     have GJ:=Hz (show ∀w',Bw w w'→Calls Tryz.prog 105 #[.agg #[.int .i64 fr,.slice A1 n1 c1_,.slice A2 n2 c2_,.slice A3 n3 c3_,.int .i64 tr,.int .i64 p,.int .i64 ip,.int .i64 iv,.int .i64 ih,.int .i64 im,.int .i64 if_,.int .i64 is_,.int .i64 ir,.slice iA in_ ic,.int .i64 v]] w' (Yes w' true) from fun w' hb=>by have h:=G1.o w' hb HH.o;rw [hc] at h;exact h)
     clear hc
     go_wp2_with (go_at_call 105;refine (GJ.o _ (HQ3.o.alloc _).bel).mono ?_;rintro e w4 ⟨rfl,hb4⟩;have HQ4:=Hz ((HQ3.o.alloc _).below hb4);have HK4:=Hz ((HK3.o.alloc _).below hb4);clear hb4)
     go_roundw
     case rel=>exact⟨2,by omega,by go_num,HC,HQ4,HK4⟩
     case measure=>simp [intOf]
    ·have hc:c1=false:=by simpa using hc
     have HE:=Hz (E1.o HH.o hc)
     have GJ:=Hz (show ∀w',Bw w w'→Calls Tryz.prog 105 #[.agg #[.int .i64 fr,.slice A1 n1 c1_,.slice A2 n2 c2_,.slice A3 n3 c3_,.int .i64 tr,.int .i64 p,.int .i64 ip,.int .i64 iv,.int .i64 ih,.int .i64 im,.int .i64 if_,.int .i64 is_,.int .i64 ir,.slice iA in_ ic,.int .i64 v]] w' (Yes w' false) from fun w' hb=>by have h:=G1.o w' hb HH.o;rw [hc] at h;exact h)
     clear hc
     go_wp2_with (go_at_call 105;refine (GJ.o _ (HQ3.o.alloc _).bel).mono ?_;rintro e w4 ⟨rfl,hb4⟩;have HQ4:=Hz ((HQ3.o.alloc _).below hb4);have zf:w4.cell? ⟨wr.heap.size,1,none⟩=some (.int .i64 3):=((Blk.new wr 136 [.func (.func 105) #[] #[],.int .i64 3]).below hb4).cell rfl;clear hb4)
     go_ret
     exact⟨ret_e HE.o.symm,HQ4.o.bel⟩
  | 2,_,HH=>
    have z0:wr.cell? ⟨g,4,none⟩=some (.func (.func 106) #[] #[]):=HK3.o.cell rfl
    have z1:wr.cell? ⟨g,5,none⟩=some (.int .i64 3):=HK3.o.cell rfl
    by_cases hc:c2=true
    ·skip
     have HC:=Hz (HH.o.s2 hc)
     have GJ:=Hz (show ∀w',Bw w w'→Calls Tryz.prog 106 #[.agg #[.int .i64 fr,.slice A1 n1 c1_,.slice A2 n2 c2_,.slice A3 n3 c3_,.int .i64 tr,.int .i64 p,.int .i64 ip,.int .i64 iv,.int .i64 ih,.int .i64 im,.int .i64 if_,.int .i64 is_,.int .i64 ir,.slice iA in_ ic,.int .i64 v]] w' (Yes w' true) from fun w' hb=>by have h:=G2.o w' hb HH.o;rw [hc] at h;exact h)
     clear hc
     go_wp2_with (go_at_call 106;refine (GJ.o _ (HQ3.o.alloc _).bel).mono ?_;rintro e w4 ⟨rfl,hb4⟩;have HQ4:=Hz ((HQ3.o.alloc _).below hb4);have HK4:=Hz ((HK3.o.alloc _).below hb4);clear hb4)
     go_roundw
     case rel=>exact⟨3,by omega,by go_num,HC,HQ4,HK4⟩
     case measure=>simp [intOf]
    ·have hc:c2=false:=by simpa using hc
     have HE:=Hz (E2.o HH.o hc)
     have GJ:=Hz (show ∀w',Bw w w'→Calls Tryz.prog 106 #[.agg #[.int .i64 fr,.slice A1 n1 c1_,.slice A2 n2 c2_,.slice A3 n3 c3_,.int .i64 tr,.int .i64 p,.int .i64 ip,.int .i64 iv,.int .i64 ih,.int .i64 im,.int .i64 if_,.int .i64 is_,.int .i64 ir,.slice iA in_ ic,.int .i64 v]] w' (Yes w' false) from fun w' hb=>by have h:=G2.o w' hb HH.o;rw [hc] at h;exact h)
     clear hc
     go_wp2_with (go_at_call 106;refine (GJ.o _ (HQ3.o.alloc _).bel).mono ?_;rintro e w4 ⟨rfl,hb4⟩;have HQ4:=Hz ((HQ3.o.alloc _).below hb4);have zf:w4.cell? ⟨wr.heap.size,1,none⟩=some (.int .i64 3):=((Blk.new wr 136 [.func (.func 106) #[] #[],.int .i64 3]).below hb4).cell rfl;clear hb4)
     go_ret
     exact⟨ret_e HE.o.symm,HQ4.o.bel⟩
  | 3,_,HH=>
    have z0:wr.cell? ⟨g,6,none⟩=some (.func (.func 107) #[] #[]):=HK3.o.cell rfl
    have z1:wr.cell? ⟨g,7,none⟩=some (.int .i64 12):=HK3.o.cell rfl
    by_cases hc:c3=true
    ·skip
     have HC:=Hz (HH.o.s3 hc)
     have GJ:=Hz (show ∀w',Bw w w'→Calls Tryz.prog 107 #[.agg #[.int .i64 fr,.slice A1 n1 c1_,.slice A2 n2 c2_,.slice A3 n3 c3_,.int .i64 tr,.int .i64 p,.int .i64 ip,.int .i64 iv,.int .i64 ih,.int .i64 im,.int .i64 if_,.int .i64 is_,.int .i64 ir,.slice iA in_ ic,.int .i64 v]] w' (Yes w' true) from fun w' hb=>by have h:=G3.o w' hb HH.o;rw [hc] at h;exact h)
     clear hc
     go_wp2_with (go_at_call 107;refine (GJ.o _ (HQ3.o.alloc _).bel).mono ?_;rintro e w4 ⟨rfl,hb4⟩;have HQ4:=Hz ((HQ3.o.alloc _).below hb4);have HK4:=Hz ((HK3.o.alloc _).below hb4);clear hb4)
     go_roundw
     case rel=>exact⟨4,by omega,by go_num,HC,HQ4,HK4⟩
     case measure=>simp [intOf]
    ·have hc:c3=false:=by simpa using hc
     have HE:=Hz (E3.o HH.o hc)
     have GJ:=Hz (show ∀w',Bw w w'→Calls Tryz.prog 107 #[.agg #[.int .i64 fr,.slice A1 n1 c1_,.slice A2 n2 c2_,.slice A3 n3 c3_,.int .i64 tr,.int .i64 p,.int .i64 ip,.int .i64 iv,.int .i64 ih,.int .i64 im,.int .i64 if_,.int .i64 is_,.int .i64 ir,.slice iA in_ ic,.int .i64 v]] w' (Yes w' false) from fun w' hb=>by have h:=G3.o w' hb HH.o;rw [hc] at h;exact h)
     clear hc
     go_wp2_with (go_at_call 107;refine (GJ.o _ (HQ3.o.alloc _).bel).mono ?_;rintro e w4 ⟨rfl,hb4⟩;have HQ4:=Hz ((HQ3.o.alloc _).below hb4);have zf:w4.cell? ⟨wr.heap.size,1,none⟩=some (.int .i64 12):=((Blk.new wr 136 [.func (.func 107) #[] #[],.int .i64 12]).below hb4).cell rfl;clear hb4)
     go_ret
     exact⟨ret_e HE.o.symm,HQ4.o.bel⟩
  | 4,_,HH=>
    have z0:wr.cell? ⟨g,8,none⟩=some (.func (.func 108) #[] #[]):=HK3.o.cell rfl
    have z1:wr.cell? ⟨g,9,none⟩=some (.int .i64 14):=HK3.o.cell rfl
    by_cases hc:c4=true
    ·skip
     have HC:=Hz (HH.o.s4 hc)
     have GJ:=Hz (show ∀w',Bw w w'→Calls Tryz.prog 108 #[.agg #[.int .i64 fr,.slice A1 n1 c1_,.slice A2 n2 c2_,.slice A3 n3 c3_,.int .i64 tr,.int .i64 p,.int .i64 ip,.int .i64 iv,.int .i64 ih,.int .i64 im,.int .i64 if_,.int .i64 is_,.int .i64 ir,.slice iA in_ ic,.int .i64 v]] w' (Yes w' true) from fun w' hb=>by have h:=G4.o w' hb HH.o;rw [hc] at h;exact h)
     clear hc
     go_wp2_with (go_at_call 108;refine (GJ.o _ (HQ3.o.alloc _).bel).mono ?_;rintro e w4 ⟨rfl,hb4⟩;have HQ4:=Hz ((HQ3.o.alloc _).below hb4);have HK4:=Hz ((HK3.o.alloc _).below hb4);clear hb4)
     go_roundw
     case rel=>exact⟨5,by omega,by go_num,HC,HQ4,HK4⟩
     case measure=>simp [intOf]
    ·have hc:c4=false:=by simpa using hc
     have HE:=Hz (E4.o HH.o hc)
     have GJ:=Hz (show ∀w',Bw w w'→Calls Tryz.prog 108 #[.agg #[.int .i64 fr,.slice A1 n1 c1_,.slice A2 n2 c2_,.slice A3 n3 c3_,.int .i64 tr,.int .i64 p,.int .i64 ip,.int .i64 iv,.int .i64 ih,.int .i64 im,.int .i64 if_,.int .i64 is_,.int .i64 ir,.slice iA in_ ic,.int .i64 v]] w' (Yes w' false) from fun w' hb=>by have h:=G4.o w' hb HH.o;rw [hc] at h;exact h)
     clear hc
     go_wp2_with (go_at_call 108;refine (GJ.o _ (HQ3.o.alloc _).bel).mono ?_;rintro e w4 ⟨rfl,hb4⟩;have HQ4:=Hz ((HQ3.o.alloc _).below hb4);have zf:w4.cell? ⟨wr.heap.size,1,none⟩=some (.int .i64 14):=((Blk.new wr 136 [.func (.func 108) #[] #[],.int .i64 14]).below hb4).cell rfl;clear hb4)
     go_ret
     exact⟨ret_e HE.o.symm,HQ4.o.bel⟩
  | 5,_,HH=>
    have z0:wr.cell? ⟨g,10,none⟩=some (.func (.func 109) #[] #[]):=HK3.o.cell rfl
    have z1:wr.cell? ⟨g,11,none⟩=some (.int .i64 15):=HK3.o.cell rfl
    by_cases hc:c5=true
    ·skip
     have HC:=Hz (HH.o.s5 hc)
     have GJ:=Hz (show ∀w',Bw w w'→Calls Tryz.prog 109 #[.agg #[.int .i64 fr,.slice A1 n1 c1_,.slice A2 n2 c2_,.slice A3 n3 c3_,.int .i64 tr,.int .i64 p,.int .i64 ip,.int .i64 iv,.int .i64 ih,.int .i64 im,.int .i64 if_,.int .i64 is_,.int .i64 ir,.slice iA in_ ic,.int .i64 v]] w' (Yes w' true) from fun w' hb=>by have h:=G5.o w' hb HH.o;rw [hc] at h;exact h)
     clear hc
     go_wp2_with (go_at_call 109;refine (GJ.o _ (HQ3.o.alloc _).bel).mono ?_;rintro e w4 ⟨rfl,hb4⟩;have HQ4:=Hz ((HQ3.o.alloc _).below hb4);have HK4:=Hz ((HK3.o.alloc _).below hb4);clear hb4)
     go_roundw
     case rel=>exact⟨6,by omega,by go_num,HC,HQ4,HK4⟩
     case measure=>simp [intOf]
    ·have hc:c5=false:=by simpa using hc
     have HE:=Hz (E5.o HH.o hc)
     have GJ:=Hz (show ∀w',Bw w w'→Calls Tryz.prog 109 #[.agg #[.int .i64 fr,.slice A1 n1 c1_,.slice A2 n2 c2_,.slice A3 n3 c3_,.int .i64 tr,.int .i64 p,.int .i64 ip,.int .i64 iv,.int .i64 ih,.int .i64 im,.int .i64 if_,.int .i64 is_,.int .i64 ir,.slice iA in_ ic,.int .i64 v]] w' (Yes w' false) from fun w' hb=>by have h:=G5.o w' hb HH.o;rw [hc] at h;exact h)
     clear hc
     go_wp2_with (go_at_call 109;refine (GJ.o _ (HQ3.o.alloc _).bel).mono ?_;rintro e w4 ⟨rfl,hb4⟩;have HQ4:=Hz ((HQ3.o.alloc _).below hb4);have zf:w4.cell? ⟨wr.heap.size,1,none⟩=some (.int .i64 15):=((Blk.new wr 136 [.func (.func 109) #[] #[],.int .i64 15]).below hb4).cell rfl;clear hb4)
     go_ret
     exact⟨ret_e HE.o.symm,HQ4.o.bel⟩
  | 6,_,HH=>
    have z0:wr.cell? ⟨g,12,none⟩=some (.func (.func 110) #[] #[]):=HK3.o.cell rfl
    have z1:wr.cell? ⟨g,13,none⟩=some (.int .i64 13):=HK3.o.cell rfl
    by_cases hc:c6=true
    ·skip
     have HC:=Hz (HH.o.s6 hc)
     have GJ:=Hz (show ∀w',Bw w w'→Calls Tryz.prog 110 #[.agg #[.int .i64 fr,.slice A1 n1 c1_,.slice A2 n2 c2_,.slice A3 n3 c3_,.int .i64 tr,.int .i64 p,.int .i64 ip,.int .i64 iv,.int .i64 ih,.int .i64 im,.int .i64 if_,.int .i64 is_,.int .i64 ir,.slice iA in_ ic,.int .i64 v]] w' (Yes w' true) from fun w' hb=>by have h:=G6.o w' hb HH.o;rw [hc] at h;exact h)
     clear hc
     go_wp2_with (go_at_call 110;refine (GJ.o _ (HQ3.o.alloc _).bel).mono ?_;rintro e w4 ⟨rfl,hb4⟩;have HQ4:=Hz ((HQ3.o.alloc _).below hb4);have HK4:=Hz ((HK3.o.alloc _).below hb4);clear hb4)
     go_roundw
     case rel=>exact⟨7,by omega,by go_num,HC,HQ4,HK4⟩
     case measure=>simp [intOf]
    ·have hc:c6=false:=by simpa using hc
     have HE:=Hz (E6.o HH.o hc)
     have GJ:=Hz (show ∀w',Bw w w'→Calls Tryz.prog 110 #[.agg #[.int .i64 fr,.slice A1 n1 c1_,.slice A2 n2 c2_,.slice A3 n3 c3_,.int .i64 tr,.int .i64 p,.int .i64 ip,.int .i64 iv,.int .i64 ih,.int .i64 im,.int .i64 if_,.int .i64 is_,.int .i64 ir,.slice iA in_ ic,.int .i64 v]] w' (Yes w' false) from fun w' hb=>by have h:=G6.o w' hb HH.o;rw [hc] at h;exact h)
     clear hc
     go_wp2_with (go_at_call 110;refine (GJ.o _ (HQ3.o.alloc _).bel).mono ?_;rintro e w4 ⟨rfl,hb4⟩;have HQ4:=Hz ((HQ3.o.alloc _).below hb4);have zf:w4.cell? ⟨wr.heap.size,1,none⟩=some (.int .i64 13):=((Blk.new wr 136 [.func (.func 110) #[] #[],.int .i64 13]).below hb4).cell rfl;clear hb4)
     go_ret
     exact⟨ret_e HE.o.symm,HQ4.o.bel⟩
  | 7,_,HH=>
    have HE:=Hz (E7.o HH.o)
    go_wp2_with fail
    go_ret
    exact⟨ret_e HE.o.symm,HQ3.o.bel⟩
  | k+8,hk,_=>exact absurd hk (by omega)
end CpaN4
end Go.Proofs.YtpidbddllnidhaaGreatDoor
