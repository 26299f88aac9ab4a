/- Parts of the proof, each under the conditions that it names. -/
import Derived.Test.YtpidbddllnidhaaGreatDoorO14
set_option maxRecDepth 100000
set_option maxHeartbeats 12800000
namespace Go.Proofs.YtpidbddllnidhaaGreatDoor
open Go.RowKit
namespace RecG
open RecM RecA
theorem right5 (p q a c l t:Int) (w:World) (s0:inn p 0 3=true) (s1:inn q 1 4294967295=true) (s2:inn a 0 1=true) (s3:inn c 0 1=true) (s4:inn l 0 (most a c)=true) (s5:inn t 0 3=false):Calls Tryz.prog 124 #[rval ⟨p,q,a,c,l,t⟩] w (Yes w false):=by
 have HX:=Hz (Bx.new w 66 (rcells ⟨p,q,a,c,l,t⟩))
 have HMA:=Hz (fun w'=>U6 p q a c l t w')
 have W0:=Hz (fun w1=>within_eq s0 w1)
 have W1:=Hz (fun w1=>within_eq s1 w1)
 have W2:=Hz (fun w1=>within_eq s2 w1)
 have W3:=Hz (fun w1=>within_eq s3 w1)
 have W4:=Hz (fun w1=>within_eq s4 w1)
 have W5:=Hz (fun w1=>within_eq s5 w1)
 obtain⟨M,hM⟩:∃M,M=most a c:=⟨_,rfl⟩
 rw [←hM] at HMA W4
 clear hM s0 s1 s2 s3 s4 s5
 show Calls _ _ #[.agg #[.int .i64 p,.int .i64 q,.int .i64 a,.int .i64 c,.int .i64 l,.int .i64 t]] w _
 go_enter Tryz.func124,Tryz.ntmps124
 go_wp2_with fail
 have HX2:Hid (Bx w w.heap.size 66 (rcells ⟨p,q,a,c,l,t⟩) (w.alloc (.cells #[.int .i64 p,.int .i64 q,.int .i64 a,.int .i64 c,.int .i64 l,.int .i64 t] 66))):=HX
 generalize w.alloc (.cells #[.int .i64 p,.int .i64 q,.int .i64 a,.int .i64 c,.int .i64 l,.int .i64 t] 66)=w2 at *
 obtain⟨y0,y1,y2,y3,y4,y5⟩:=Bx.six HX2.o
 first|(go_region_law
  (rw [if_pos (by rfl)];go_simp;first
   | (go_at_call 80;(first|(with_reducible refine (W0.o _).mono ?_)|(with_reducible refine (W1.o _).mono ?_)|(with_reducible refine (W2.o _).mono ?_)|(with_reducible refine (W3.o _).mono ?_)|(with_reducible refine (W4.o _).mono ?_)|(with_reducible refine (W5.o _).mono ?_));rintro e w' ⟨rfl,rfl⟩)
   | (go_at_call 160;refine (HMA.o _).mono ?_;rintro e wn ⟨rfl,hbn⟩;have HXa:=Hz (HX2.o.step (((Mb w2.heap.size w2).drew).trans hbn));clear hbn;obtain⟨y0,y1,y2,y3,y4,y5⟩:=Bx.six HXa.o)))|fail
 all_goals (clear y0 y1 y2 y3 y4 y5;go_wp2;go_ret;exact⟨rfl,HXa.o.bel⟩)
end RecG
end Go.Proofs.YtpidbddllnidhaaGreatDoor
