/- The parts that this claim uses of: PlaN. Conditions: those that each law names. -/
import Derived.Test.YtkepomnbhnnliaaGreatDoorK25
set_option maxRecDepth 100000
set_option maxHeartbeats 12800000
namespace Go.Proofs.YtkepomnbhnnliaaGreatDoor
namespace PlaN
open Go.RowKit Kit PlaM
def bi (n:Int):Int:=if 0≤n∧n≤9 then n/4 else 0
def bf (n:Int):Int:=if 0≤n∧n≤9 then n%4*16 else 0
def bb (n:Int):Bool:=decide (0≤n∧n≤9)
def bel (n c:Int):Bool:=decide (0≤n∧n<c)
theorem below_any (n c:Int) (w:World):Calls Tryz.prog 167 #[.int .i64 n,.int .i64 c] w fun e w'=>e=.returned (.bool (bel n c))∧w=w':=by
 unfold bel
 by_cases h:0≤n
 ·go_enter Tryz.func167,Tryz.ntmps167
  go_wp2
  go_ret
  exact⟨ret_bool (by simp [h]),rfl⟩
 ·have h' : ¬(0≤n):=h
  go_enter Tryz.func167,Tryz.ntmps167
  go_wp2
  go_ret
  exact⟨ret_bool (by rw [Bool.eq_iff_iff];simp;omega),rfl⟩
theorem below_q {n c:Int} {b:Bool} (h:bel n c=b) (w:World):Calls Tryz.prog 167 #[.int .i64 n,.int .i64 c] w fun e w'=>e=.returned (.bool b)∧w'=w:=h▸(below_any n c w).mono fun _ _ h=>⟨h.1,h.2.symm⟩
theorem below_eq {n c:Int} {b:Bool} (h:bel n c=b) (w:World):Calls Tryz.prog 167 #[.int .i64 n,.int .i64 c] w fun e w'=>e=.returned (.bool b)∧w=w':=h▸below_any n c w
def slf (s:Int):Int:=wrap64 (2+wrap64 (s*4))
theorem slot_any (s:Int) (w:World):Calls Tryz.prog 184 #[.int .i64 s] w fun e w'=>e=.returned (.int .i64 (slf s))∧w=w':=by
 unfold slf
 go_enter Tryz.func184,Tryz.ntmps184
 go_wp2
 go_ret
 exact⟨rfl,rfl⟩
theorem slot_q {s x:Int} (h:slf s=x) (w:World):Calls Tryz.prog 184 #[.int .i64 s] w fun e w'=>e=.returned (.int .i64 x)∧w'=w:=h▸(slot_any s w).mono fun _ _ h=>⟨h.1,h.2.symm⟩
theorem c1_any (c:Int) (a:Nat) (w:World) (ha:w.cell? ⟨a,0,none⟩=some (.int .i64 c)) :
 Calls Tryz.prog 166 #[.pointer (some ⟨a,0,none⟩)] w fun e w'=>e=.returned (.tuple #[.int .i64 c,.bool (bel c 2)])∧Below w.heap.size w w':=by
 obtain⟨b,hb⟩:∃b,bel c 2=b:=⟨_,rfl⟩
 have W0:=Hz (fun w'=>below_q hb w')
 rw [hb]
 clear hb
 go_enter Tryz.func166,Tryz.ntmps166
 go_wp2_with (fail)
 go_quiet ((go_at_call 167;with_reducible exact Calls.quiet_of_same (W0.out _)))
 go_wp2_with (fail)
 go_ret2
 exact⟨rfl,below_drewN (Below.refl _ _) _⟩
theorem s1_any (s:Int) (a:Nat) (w:World) (ha:w.cell? ⟨a,0,none⟩=some (.int .i64 s)) :
 Calls Tryz.prog 183 #[.pointer (some ⟨a,0,none⟩)] w fun e w'=>e=.returned (.tuple #[.int .i64 (slf s),.bool (bel s 2)])∧Below w.heap.size w w':=by
 obtain⟨b,hb⟩:∃b,bel s 2=b:=⟨_,rfl⟩
 obtain⟨x,hx⟩:∃x,slf s=x:=⟨_,rfl⟩
 have W0:=Hz (fun w'=>below_q hb w')
 have W1:=Hz (fun w'=>slot_q hx w')
 rw [hb,hx]
 clear hb hx
 go_enter Tryz.func183,Tryz.ntmps183
 go_wp2_with (fail)
 go_quiet ((first|(go_at_call 167;with_reducible exact Calls.quiet_of_same (W0.out _))|(go_at_call 184;with_reducible exact Calls.quiet_of_same (W1.out _))))
 go_wp2_with (fail)
 go_ret2
 exact⟨rfl,below_drewN (Below.refl _ _) _⟩
theorem d1_any (s i:Int) (a b:Nat) (w:World) (ha:w.cell? ⟨a,0,none⟩=some (.int .i64 s)) (hb:w.cell? ⟨b,0,none⟩=some (.int .i64 i)) :
 Calls Tryz.prog 209 #[.pointer (some ⟨a,0,none⟩),.pointer (some ⟨b,0,none⟩)] w fun e w'=>e=.returned (.tuple #[.int .i64 (wrap64 (wrap64 (slf s+1)+i)),.bool (bel s 2&&bel i 3)])∧Below w.heap.size w w':=by
 obtain⟨x,hx⟩:∃x,slf s=x:=⟨_,rfl⟩
 have W1:=Hz (fun w'=>slot_q hx w')
 rw [hx]
 clear hx
 cases h1:bel s 2 with
 | true=>
   obtain⟨d,hd⟩:∃d,bel i 3=d:=⟨_,rfl⟩
   have W0:=Hz (fun w'=>below_q h1 w')
   have W2:=Hz (fun w'=>below_q hd w')
   rw [hd]
   clear h1 hd
   go_enter Tryz.func209,Tryz.ntmps209
   go_wp2_with (fail)
   go_quiet ((first|(go_at_call 167;with_reducible exact Calls.quiet_of_same (W0.out _))|(go_at_call 167;with_reducible exact Calls.quiet_of_same (W2.out _))|(go_at_call 184;with_reducible exact Calls.quiet_of_same (W1.out _))))
   go_wp2_with (fail)
   go_ret2
   exact⟨rfl,below_drewN (Below.refl _ _) _⟩
 | false=>
   have W0:=Hz (fun w'=>below_q h1 w')
   clear h1
   go_enter Tryz.func209,Tryz.ntmps209
   go_wp2_with (fail)
   go_quiet ((first|(go_at_call 167;with_reducible exact Calls.quiet_of_same (W0.out _))|(go_at_call 184;with_reducible exact Calls.quiet_of_same (W1.out _))))
   go_wp2_with (fail)
   go_ret2
   exact⟨rfl,below_drewN (Below.refl _ _) _⟩
theorem of_c {p v q:Int} {is:Bool} {a:Nat} (w:World) (hv:is=true→bel p 4=true→q=10*p+v∧0≤p∧p≤3∧0≤v∧v≤9) (hq:(is&&bel p 4)=false→q=0)
 (HF:Calls Tryz.prog 166 #[.pointer (some ⟨a,0,none⟩)] w fun e w'=>e=.returned (.tuple #[.int .i64 v,.bool is])∧Below w.heap.size w w') :
 Calls Tryz.prog 165 #[.int .i64 p,.func (.func 166) #[] #[.pointer (some ⟨a,0,none⟩)]] w fun e w'=>e=.returned (.tuple #[.int .i64 q,.bool (is&&bel p 4)])∧Below w.heap.size w w':=by
 have HF:=Hz HF
 cases is with
 | false=>
   obtain rfl:=hq rfl
   clear hv hq
   go_enter Tryz.func165,Tryz.ntmps165
   go_wp2_with (go_at_call 166;refine HF.out.mono ?_;rintro e w1 ⟨rfl,hb1⟩;have HL1:=Hz hb1;clear hb1)
   go_ret2
   exact⟨rfl,HL1.out⟩
 | true=>
   cases h:bel p 4 with
   | false=>
     obtain rfl:=hq h
     have W0:=Hz (fun w'=>below_eq h w')
     clear hv hq h
     go_enter Tryz.func165,Tryz.ntmps165
     go_wp2_with (first|(go_at_call 166;refine HF.out.mono ?_;rintro e w1 ⟨rfl,hb1⟩;have HL1:=Hz hb1;clear hb1)|(go_at_call 167;refine (W0.out _).mono ?_;rintro e w' ⟨rfl,rfl⟩))
     go_ret2
     exact⟨rfl,HL1.out⟩
   | true=>
     obtain⟨rfl,hp0,hp1,hv0,hv1⟩:=hv rfl h
     have W0:=Hz (fun w'=>below_eq h w')
     have HE:=Hz (show 10*p+v=p*10+v from by omega)
     clear hq h
     go_enter Tryz.func165,Tryz.ntmps165
     go_wp2_with (first|(go_at_call 166;refine HF.out.mono ?_;rintro e w1 ⟨rfl,hb1⟩;have HL1:=Hz hb1;clear hb1)|(go_at_call 167;refine (W0.out _).mono ?_;rintro e w' ⟨rfl,rfl⟩))
     go_ret2
     exact⟨by rw [HE.out];rfl,HL1.out⟩
theorem of_s {p v q:Int} {is:Bool} {a:Nat} (w:World) (hv:is=true→bel p 4=true→q=10*p+v∧0≤p∧p≤3∧0≤v∧v≤9) (hq:(is&&bel p 4)=false→q=0)
 (HF:Calls Tryz.prog 183 #[.pointer (some ⟨a,0,none⟩)] w fun e w'=>e=.returned (.tuple #[.int .i64 v,.bool is])∧Below w.heap.size w w') :
 Calls Tryz.prog 165 #[.int .i64 p,.func (.func 183) #[] #[.pointer (some ⟨a,0,none⟩)]] w fun e w'=>e=.returned (.tuple #[.int .i64 q,.bool (is&&bel p 4)])∧Below w.heap.size w w':=by
 have HF:=Hz HF
 cases is with
 | false=>
   obtain rfl:=hq rfl
   clear hv hq
   go_enter Tryz.func165,Tryz.ntmps165
   go_wp2_with (go_at_call 183;refine HF.out.mono ?_;rintro e w1 ⟨rfl,hb1⟩;have HL1:=Hz hb1;clear hb1)
   go_ret2
   exact⟨rfl,HL1.out⟩
 | true=>
   cases h:bel p 4 with
   | false=>
     obtain rfl:=hq h
     have W0:=Hz (fun w'=>below_eq h w')
     clear hv hq h
     go_enter Tryz.func165,Tryz.ntmps165
     go_wp2_with (first|(go_at_call 183;refine HF.out.mono ?_;rintro e w1 ⟨rfl,hb1⟩;have HL1:=Hz hb1;clear hb1)|(go_at_call 167;refine (W0.out _).mono ?_;rintro e w' ⟨rfl,rfl⟩))
     go_ret2
     exact⟨rfl,HL1.out⟩
   | true=>
     obtain⟨rfl,hp0,hp1,hv0,hv1⟩:=hv rfl h
     have W0:=Hz (fun w'=>below_eq h w')
     have HE:=Hz (show 10*p+v=p*10+v from by omega)
     clear hq h
     go_enter Tryz.func165,Tryz.ntmps165
     go_wp2_with (first|(go_at_call 183;refine HF.out.mono ?_;rintro e w1 ⟨rfl,hb1⟩;have HL1:=Hz hb1;clear hb1)|(go_at_call 167;refine (W0.out _).mono ?_;rintro e w' ⟨rfl,rfl⟩))
     go_ret2
     exact⟨by rw [HE.out];rfl,HL1.out⟩
theorem of_d {p v q:Int} {is:Bool} {a b:Nat} (w:World) (hv:is=true→bel p 4=true→q=10*p+v∧0≤p∧p≤3∧0≤v∧v≤9) (hq:(is&&bel p 4)=false→q=0)
 (HF:Calls Tryz.prog 209 #[.pointer (some ⟨a,0,none⟩),.pointer (some ⟨b,0,none⟩)] w fun e w'=>e=.returned (.tuple #[.int .i64 v,.bool is])∧Below w.heap.size w w') :
 Calls Tryz.prog 165 #[.int .i64 p,.func (.func 209) #[] #[.pointer (some ⟨a,0,none⟩),.pointer (some ⟨b,0,none⟩)]] w fun e w'=>e=.returned (.tuple #[.int .i64 q,.bool (is&&bel p 4)])∧Below w.heap.size w w':=by
 have HF:=Hz HF
 cases is with
 | false=>
   obtain rfl:=hq rfl
   clear hv hq
   go_enter Tryz.func165,Tryz.ntmps165
   go_wp2_with (go_at_call 209;refine HF.out.mono ?_;rintro e w1 ⟨rfl,hb1⟩;have HL1:=Hz hb1;clear hb1)
   go_ret2
   exact⟨rfl,HL1.out⟩
 | true=>
   cases h:bel p 4 with
   | false=>
     obtain rfl:=hq h
     have W0:=Hz (fun w'=>below_eq h w')
     clear hv hq h
     go_enter Tryz.func165,Tryz.ntmps165
     go_wp2_with (first|(go_at_call 209;refine HF.out.mono ?_;rintro e w1 ⟨rfl,hb1⟩;have HL1:=Hz hb1;clear hb1)|(go_at_call 167;refine (W0.out _).mono ?_;rintro e w' ⟨rfl,rfl⟩))
     go_ret2
     exact⟨rfl,HL1.out⟩
   | true=>
     obtain⟨rfl,hp0,hp1,hv0,hv1⟩:=hv rfl h
     have W0:=Hz (fun w'=>below_eq h w')
     have HE:=Hz (show 10*p+v=p*10+v from by omega)
     clear hq h
     go_enter Tryz.func165,Tryz.ntmps165
     go_wp2_with (first|(go_at_call 209;refine HF.out.mono ?_;rintro e w1 ⟨rfl,hb1⟩;have HL1:=Hz hb1;clear hb1)|(go_at_call 167;refine (W0.out _).mono ?_;rintro e w' ⟨rfl,rfl⟩))
     go_ret2
     exact⟨by rw [HE.out];rfl,HL1.out⟩
theorem hmf (fn:Fn) (first cap:Array Value) (w:World):(Instr.makeFunc fn first cap).run Tryz.prog w=.ok (.func fn first cap) w:=rfl
theorem bel_iff (n c:Int):bel n c=true↔0≤n∧n<c:=by unfold bel;simp
theorem slf_0:slf 0=2:=by unfold slf wrap64;decide
theorem slf_1:slf 1=6:=by unfold slf wrap64;decide
theorem tb_neg {x:Int} (h:x<0):tb x=false:=by unfold tb;simpa using h
theorem tb_pos {x:Int} (h:0≤x):tb x=true:=by unfold tb;simpa using h
theorem tv_neg {x:Int} (h:x<0):tv x=0:=by unfold tv;rw [if_pos h]
theorem tv_pos {x:Int} (h:0≤x):tv x=x:=by unfold tv;rw [if_neg (by omega)]
theorem tell {x p v:Int} {is:Bool} (h1:is=true→0≤p∧p<4→x=10*p+v∧0≤v∧v≤9) (h0 : ¬(is=true∧0≤p∧p<4)→x<0) :
 tb x=(is&&bel p 4)∧(is=true→bel p 4=true→tv x=10*p+v∧0≤p∧p≤3∧0≤v∧v≤9)∧((is&&bel p 4)=false→tv x=0):=by
 by_cases hy:is=true∧0≤p∧p<4
 ·obtain⟨rfl,hp⟩:=hy
  obtain⟨rfl,hv0,hv1⟩:=h1 rfl hp
  have hb:=(bel_iff p 4).mpr hp
  refine⟨by rw [hb,tb_pos (by omega)];rfl,fun _ _=>⟨tv_pos (by omega),by omega,by omega,hv0,hv1⟩,fun h=>?_⟩
  rw [hb] at h
  cases h
 ·have hx:=h0 hy
  have hn:(is&&bel p 4)=false:=by
   rw [Bool.eq_false_iff]
   intro h
   rw [Bool.and_eq_true] at h
   exact hy ⟨h.1,(bel_iff p 4).mp h.2⟩
  refine⟨by rw [hn,tb_neg hx],fun a b=>?_,fun _=>tv_neg hx⟩
  rw [a,b] at hn
  cases hn
theorem sectors_any (n:Int) (w:World) (_hn:n64 n):Calls Tryz.prog 99 #[.int .i64 n] w fun e w'=>e=.returned (.int .i64 (sec n))∧Below w.heap.size w w':=by
 by_cases h1:n<1
 ·have H:=Hz (show 10=sec n from by unfold sec;rw [if_pos h1])
  go_enter Tryz.func99,Tryz.ntmps99
  go_wp2
  go_ret
  exact⟨ret_i H.out,Below.refl _ _⟩
 ·by_cases h4:4<n
  ·have H:=Hz (show 40=sec n from by unfold sec;rw [if_neg h1,if_pos h4])
   go_enter Tryz.func99,Tryz.ntmps99
   go_wp2
   go_ret
   exact⟨ret_i H.out,Below.refl _ _⟩
  ·have H:=Hz (show n*10=sec n from by unfold sec;rw [if_neg h1,if_neg h4];omega)
   go_enter Tryz.func99,Tryz.ntmps99
   go_wp2
   go_ret
   exact⟨ret_i H.out,Below.refl _ _⟩
theorem commit_any (p c:Int) (w:World) (_hp:n64 p) (_hc:n64 c):Calls Tryz.prog 117 #[.int .i64 p,.int .i64 c] w fun e w'=>e=.returned (.tuple #[.int .i64 (tv (rC p c)),.bool (tb (rC p c))])∧Below w.heap.size w w':=by
 obtain⟨e1,e2,e3⟩:=tell (x:=rC p c) (p:=p) (v:=c) (is:=bel c 2)
  (fun h hp=>by
    rw [bel_iff] at h
    refine⟨?_,by omega,by omega⟩
    unfold rC fnd
    rw [if_pos (by omega),if_neg (by omega)])
  (fun h=>by
    rw [bel_iff] at h
    unfold rC fnd
    repeat (first|omega|split))
 have HS:=Hz (fun w' a ha=>of_c (a:=a) w' e2 e3 (c1_any c a w' ha))
 rw [e1]
 generalize tv (rC p c)=x at *
 generalize (bel c 2&&bel p 4)=y at *
 clear e1 e2 e3
 have hmf:=hmf
 go_enter Tryz.func117,Tryz.ntmps117
 go_wp2_with (go_at_call 165;refine (HS.out _ _ (cell_of_one (heap_alloc_new w _))).mono ?_;rintro e w1 ⟨rfl,hb1⟩;have HL1:=Hz (((Below.refl _ _).alloc (Nat.le_refl _) _).trans (hb1.mono (by simp)));clear hb1)
 go_ret2
 exact⟨rfl,HL1.out⟩
theorem slot_is {s:Int} (h:bel s 2=true):(s=0∧slf s=2)∨(s=1∧slf s=6):=by
 rw [bel_iff] at h
 rcases (show s=0∨s=1 from by omega) with rfl|rfl
 ·exact .inl ⟨rfl,slf_0⟩
 ·exact .inr ⟨rfl,slf_1⟩
theorem stage_any (p s:Int) (w:World) (_hp:n64 p) (_hs:n64 s):Calls Tryz.prog 129 #[.int .i64 p,.int .i64 s] w fun e w'=>e=.returned (.tuple #[.int .i64 (tv (rS p s)),.bool (tb (rS p s))])∧Below w.heap.size w w':=by
 obtain⟨e1,e2,e3⟩:=tell (x:=rS p s) (p:=p) (v:=slf s) (is:=bel s 2)
  (fun h hp=>by
    rcases slot_is h with⟨rfl,hq⟩|⟨rfl,hq⟩
    ·refine⟨?_,by omega,by omega⟩
     unfold rS fnd
     rw [if_pos rfl,if_neg (by omega)]
     omega
    ·refine⟨?_,by omega,by omega⟩
     unfold rS fnd
     rw [if_neg (by omega),if_pos rfl,if_neg (by omega)]
     omega)
  (fun h=>by
    rw [bel_iff] at h
    unfold rS fnd
    repeat (first|omega|split))
 have HS:=Hz (fun w' a ha=>of_s (a:=a) w' e2 e3 (s1_any s a w' ha))
 rw [e1]
 generalize tv (rS p s)=x at *
 generalize (bel s 2&&bel p 4)=y at *
 clear e1 e2 e3
 have hmf:=hmf
 go_enter Tryz.func129,Tryz.ntmps129
 go_wp2_with (go_at_call 165;refine (HS.out _ _ (cell_of_one (heap_alloc_new w _))).mono ?_;rintro e w1 ⟨rfl,hb1⟩;have HL1:=Hz (((Below.refl _ _).alloc (Nat.le_refl _) _).trans (hb1.mono (by simp)));clear hb1)
 go_ret2
 exact⟨rfl,HL1.out⟩
theorem two_cells (w:World) (x y:Value) (t u:TypeId):((w.alloc (.cells #[x] t)).alloc (.cells #[y] u)).cell? ⟨w.heap.size,0,none⟩=some x∧((w.alloc (.cells #[x] t)).alloc (.cells #[y] u)).cell? ⟨w.heap.size+1,0,none⟩=some y:=by
 have e:(w.alloc (.cells #[x] t)).heap.size=w.heap.size+1:=by simp
 refine⟨(World.cell?_alloc_past _ _ _ (by simp)).trans (cell_of_one (heap_alloc_new w _)),?_⟩
 rw [←e]
 exact cell_of_one (heap_alloc_new _ _)
theorem wrap_lt {n:Int} (h : -9223372036854775808≤n∧n≤9223372036854775807):wrap64 n=n:=by unfold wrap64;omega
theorem data_any (p s i:Int) (w:World) (_hp:n64 p) (_hs:n64 s) (_hi:n64 i):Calls Tryz.prog 170 #[.int .i64 p,.int .i64 s,.int .i64 i] w fun e w'=>e=.returned (.tuple #[.int .i64 (tv (rD p s i)),.bool (tb (rD p s i))])∧Below w.heap.size w w':=by
 obtain⟨e1,e2,e3⟩:=tell (x:=rD p s i) (p:=p) (v:=wrap64 (wrap64 (slf s+1)+i)) (is:=(bel s 2&&bel i 3))
  (fun h hp=>by
    rw [Bool.and_eq_true,bel_iff i] at h
    obtain⟨h,hi⟩:=h
    rcases slot_is h with⟨rfl,hq⟩|⟨rfl,hq⟩
    ·have e:rS p 0=10*p+2:=by
      unfold rS fnd
      rw [if_pos rfl,if_neg (by omega)]
     rw [hq,wrap_lt (n:=2+1) (by omega),wrap_lt (n:=2+1+i) (by omega)]
     refine⟨?_,by omega,by omega⟩
     unfold rD
     rw [e,if_neg (by omega)]
     omega
    ·have e:rS p 1=10*p+6:=by
      unfold rS fnd
      rw [if_neg (by omega),if_pos rfl,if_neg (by omega)]
     rw [hq,wrap_lt (n:=6+1) (by omega),wrap_lt (n:=6+1+i) (by omega)]
     refine⟨?_,by omega,by omega⟩
     unfold rD
     rw [e,if_neg (by omega)]
     omega)
  (fun h=>by
    rw [Bool.and_eq_true,bel_iff,bel_iff] at h
    by_cases hc:rS p s<0∨i<0∨2<i
    ·unfold rD
     rw [if_pos hc]
     omega
    ·exfalso
     have hq:0≤rS p s:=by omega
     refine h ⟨⟨?_,by omega⟩,?_⟩
     ·unfold rS fnd at hq
      repeat (first|omega|split at hq)
     ·unfold rS fnd at hq
      repeat (first|omega|split at hq))
 have HS:=Hz (fun w' a b ha hb=>of_d (a:=a) (b:=b) w' e2 e3 (d1_any s i a b w' ha hb))
 rw [e1]
 generalize tv (rD p s i)=x at *
 generalize ((bel s 2&&bel i 3)&&bel p 4)=y at *
 clear e1 e2 e3
 have hmf:=hmf
 have HC:=Hz (two_cells w)
 go_enter Tryz.func170,Tryz.ntmps170
 go_wp2_with (go_at_call 165;refine (HS.out _ _ _ (HC.out _ _ _ _).1 (HC.out _ _ _ _).2).mono ?_;rintro e w1 ⟨rfl,hb1⟩;have HL1:=Hz ((((Below.refl w.heap.size w).alloc (Nat.le_refl _) _).alloc (by simp) _).trans (hb1.mono (by simp;omega)));clear hb1)
 go_ret2
 exact⟨rfl,HL1.out⟩
theorem block_any (n:Int) (w:World) (_hn:n64 n):Calls Tryz.prog 122 #[.int .i64 n] w fun e w'=>e=.returned (.tuple #[.int .i64 (bi n),.int .i64 (bf n),.bool (bb n)])∧Below w.heap.size w w':=by
 by_cases h:0≤n∧n≤9
 ·have W0:=Hz (fun w'=>below_eq (n:=n) (c:=10) (b:=true) ((bel_iff n 10).mpr (by omega)) w')
  have HB:=Hz (show bb n=true from by unfold bb;simpa using h)
  have H1:=Hz (show n.tdiv 4=bi n from by unfold bi;rw [if_pos h,Int.tdiv_eq_ediv_of_nonneg (by omega)])
  have H2:=Hz (show n%4*16=bf n from by unfold bf;rw [if_pos h])
  have hq2:0≤n.tdiv 4∧n.tdiv 4≤2:=by rw [Int.tdiv_eq_ediv_of_nonneg (by omega)];omega
  rw [HB.out]
  go_enter Tryz.func122,Tryz.ntmps122
  go_wp2_with (go_at_call 167;refine (W0.out _).mono ?_;rintro e w' ⟨rfl,rfl⟩)
  go_ret3
  exact⟨by rw [←H1.out,←H2.out];rfl,Below.refl _ _⟩
 ·have W0:=Hz (fun w'=>below_eq (n:=n) (c:=10) (b:=false) (by rw [Bool.eq_false_iff];intro hh;rw [bel_iff] at hh;omega) w')
  have HB:=Hz (show bb n=false from by unfold bb;simpa using h)
  have H1:=Hz (show bi n=0 from by unfold bi;rw [if_neg h])
  have H2:=Hz (show bf n=0 from by unfold bf;rw [if_neg h])
  rw [HB.out,H1.out,H2.out]
  clear h
  go_enter Tryz.func122,Tryz.ntmps122
  go_wp2_with (go_at_call 167;refine (W0.out _).mono ?_;rintro e w' ⟨rfl,rfl⟩)
  go_ret3
  exact⟨rfl,Below.refl _ _⟩
end PlaN
end Go.Proofs.YtkepomnbhnnliaaGreatDoor
