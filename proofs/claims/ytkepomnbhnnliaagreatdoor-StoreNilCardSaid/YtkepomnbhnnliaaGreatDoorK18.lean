/- The parts that this claim uses of: TabB · TabC · TabD0 · CpaM · TabE0 · TabH · TabI0. Conditions: those that each law names. -/
import Derived.Test.YtkepomnbhnnliaaGreatDoorK17
set_option maxRecDepth 100000
set_option maxHeartbeats 12800000
namespace Go.Proofs.YtkepomnbhnnliaaGreatDoor
namespace TabB
open Go.RowKit Kit Byt Mem TabA
def inn (n l m:Int):Bool:=decide (l≤n∧n≤m)
theorem within_any (n l m:Int) (w:World):Calls Tryz.prog 147 #[.int .i64 n,.int .i64 l,.int .i64 m] w fun e w'=>e=.returned (.bool (inn n l m))∧w=w':=by
 unfold inn
 by_cases h:l≤n
 ·go_enter Tryz.func147,Tryz.ntmps147
  go_wp2
  go_ret
  exact⟨ret_bool (by simp [h]),rfl⟩
 ·have h' : ¬(l≤n):=h
  go_enter Tryz.func147,Tryz.ntmps147
  go_wp2
  go_ret
  exact⟨ret_bool (by rw [Bool.eq_iff_iff];simp;omega),rfl⟩
theorem inn_true {n l m:Int} (h:inn n l m=true):l≤n∧n≤m:=by simpa [inn] using h
theorem inn_false {n l m:Int} (h:inn n l m=false) : ¬(l≤n∧n≤m):=by simpa [inn] using h
def Yes (w:World) (b:Bool) (e:Ending) (w':World):Prop:=e=.returned (.bool b)∧Below w.heap.size w w'
theorem has_any (fr tr:Int) (A1 A2 A3:Option Addr) (n1 c1 n2 c2 n3 c3:Nat) (p:Int) (hm:n1≤9223372036854775807) (w:World) :
 Calls Tryz.prog 196 #[.agg #[.int .i64 fr,.slice A1 n1 c1,.slice A2 n2 c2,.slice A3 n3 c3,.int .i64 tr],.int .i64 p] w fun e w'=>
  e=.returned (.bool (inn p 0 ((n1:Int)-1)))∧w.alloc (.cells #[.int .i64 fr,.slice A1 n1 c1,.slice A2 n2 c2,.slice A3 n3 c3,.int .i64 tr] 26)=w':=by
 go_enter Tryz.func196,Tryz.ntmps196
 go_wp2_with fail
 refine (within_any _ _ _ _).mono ?_
 rintro e w' ⟨rfl,rfl⟩
 go_wp2
 go_ret
 exact⟨rfl,rfl⟩
structure Bx (w:World) (t:Ta) (wr:World):Prop where
 blk:Blk wr w.heap.size 26 t.cells
 bel:Below w.heap.size w wr
theorem Bx.new (w:World) (t:Ta):Bx w t (w.alloc (.cells t.cells.toArray 26)):=⟨Blk.new w _ _,(Below.refl _ _).alloc (Nat.le_refl _) _⟩
theorem Bx.step {w wr w':World} {t:Ta} (h:Bx w t wr) (hb:Below wr.heap.size wr w'):Bx w t w':=⟨h.blk.below hb,h.bel.trans (hb.mono h.bel.size)⟩
theorem Bx.alloc {w wr:World} {t:Ta} (h:Bx w t wr) (o:Obj):Bx w t (wr.alloc o):=h.step ((Below.refl _ _).alloc (Nat.le_refl _) o)
theorem Bx.cell {w wr:World} {t:Ta} (h:Bx w t wr):wr.cell? ⟨w.heap.size,0,none⟩=some (.int .i64 t.fr)∧wr.cell? ⟨w.heap.size,1,none⟩=some (.slice t.A1 t.n1 t.c1)∧wr.cell? ⟨w.heap.size,2,none⟩=some (.slice t.A2 t.n2 t.c2)∧wr.cell? ⟨w.heap.size,3,none⟩=some (.slice t.A3 t.n3 t.c3)∧wr.cell? ⟨w.heap.size,4,none⟩=some (.int .i64 t.tr):=
 ⟨h.blk.cell rfl,h.blk.cell rfl,h.blk.cell rfl,h.blk.cell rfl,h.blk.cell rfl⟩
theorem Bx.sz {w wr:World} {t:Ta} (h:Bx w t wr):w.heap.size<wr.heap.size:=h.blk.lt
def PartOk (r:Tri):Prop:=(1≤r.a∧r.a≤16)∧(1≤r.b∧r.b≤32)∧(0≤r.c∧r.c≤65535)
def PartsOk (P:List Tri):Prop:=(2≤P.length∧P.length≤4)∧∀(k:Nat) (r:Tri),P[k]?=some r→PartOk r
def upto (p:Nat→Tri→Prop) (R:List Tri) (k:Nat):Prop:=∀(j:Nat) (r:Tri),j<k→R[j]?=some r→p j r
theorem upto.zero {p:Nat→Tri→Prop} {R:List Tri}:upto p R 0:=fun _ _ h=>by omega
theorem upto.next {p:Nat→Tri→Prop} {R:List Tri} {k:Nat} {r:Tri} (h:upto p R k) (hr:R[k]?=some r) (hp:p k r):upto p R (k+1):=fun j r' hj hr'=>by
 rcases Nat.lt_or_ge j k with h1|h1
 ·exact h j r' h1 hr'
 ·obtain rfl:j=k:=by omega
  rw [hr] at hr'
  injection hr' with hr'
  exact hr'▸hp
theorem upto.all {p:Nat→Tri→Prop} {R:List Tri} (h:upto p R R.length):∀(k:Nat) (r:Tri),R[k]?=some r→p k r:=fun k r hr=>h k r (List.getElem?_eq_some_iff.1 hr).1 hr
theorem parts_any (t:Ta) (w:World) (h:t.ok w) (b:Bool) (hb:b=true↔PartsOk t.P):Calls Tryz.prog 148 #[t.val] w (Yes w b):=by
 obtain⟨fr,A1,n1,c1,P,A2,n2,c2,W,A3,n3,c3,C,tr⟩:=t
 have hm:n1≤9223372036854775807:=h.P.le
 have HL:=Hz (show P.length=n1 from h.P.1)
 have HP:=Hz (show Tris w A1 n1 c1 P from h.P)
 have HB:=Hz (show b=true↔PartsOk P from hb)
 clear h hb
 show Calls _ _ #[.agg #[.int .i64 fr,.slice A1 n1 c1,.slice A2 n2 c2,.slice A3 n3 c3,.int .i64 tr]] w _
 have hno:∀(k:Nat) (r:Tri),P[k]?=some r→¬PartOk r→b=false:=fun k r hr hp=>by
  rw [Bool.eq_false_iff]
  intro hb
  exact hp ((HB.out.1 hb).2 k r hr)
 have HNO:=Hz hno
 clear hno
 cases hl:inn (n1:Int) 2 4
 ·have hb:b=false:=by
   rw [Bool.eq_false_iff]
   intro hb
   have:=(HB.out.1 hb).1
   have:=inn_false hl
   have:=HL.out
   omega
  go_enter Tryz.func148,Tryz.ntmps148
  go_wp2_with (go_at_call 147;refine (within_any _ _ _ _).mono ?_;rintro e w' ⟨rfl,rfl⟩)
  go_ret
  exact⟨by rw [hb];rfl,(Below.refl _ _).alloc (Nat.le_refl _) _⟩
 ·go_enter Tryz.func148,Tryz.ntmps148
  go_wp2_with (go_at_call 147;refine (within_any _ _ _ _).mono ?_;rintro e w' ⟨rfl,rfl⟩)
  go_loopw [13] (fun i wr=>∃k:Nat,k≤n1∧i=.int .i64 k∧Hid (upto (fun _=>PartOk) P k)∧Below w.heap.size w wr) (fun i _=>n1-(intOf i).toNat)
  case atStart=>exact⟨0,Nat.zero_le _,rfl,Hz upto.zero,(Below.refl _ _).alloc (Nat.le_refl _) _⟩
  case round=>
   obtain⟨k,hk,rfl,HU,hbw⟩:=hrel
   have hsz:=hbw.size
   by_cases hlt:k<n1
   ·obtain⟨r,b',o,hr,hok,hA,hb',q0,q1,q2⟩:=(HP.out.below hbw).at_ hlt
    subst hA
    have HR:=Hz hr
    have HO:=Hz hok
    clear hr hok
    cases s0:inn r.a 1 16
    ·go_wp2_with (go_at_call 147;refine (within_any _ _ _ _).mono ?_;rintro e w' ⟨rfl,rfl⟩)
     go_ret
     exact⟨by rw [HNO.out k r HR.out (fun hp=>inn_false s0 hp.1)];rfl,hbw.alloc hsz _⟩
    ·cases s1:inn r.b 1 32
     ·go_wp2_with (go_at_call 147;refine (within_any _ _ _ _).mono ?_;rintro e w' ⟨rfl,rfl⟩)
      go_ret
      exact⟨by rw [HNO.out k r HR.out (fun hp=>inn_false s1 hp.2.1)];rfl,hbw.alloc hsz _⟩
     ·cases s2:inn r.c 0 65535
      ·go_wp2_with (go_at_call 147;refine (within_any _ _ _ _).mono ?_;rintro e w' ⟨rfl,rfl⟩)
       go_ret
       exact⟨by rw [HNO.out k r HR.out (fun hp=>inn_false s2 hp.2.2)];rfl,hbw.alloc hsz _⟩
      ·go_wp2_with (go_at_call 147;refine (within_any _ _ _ _).mono ?_;rintro e w' ⟨rfl,rfl⟩)
       go_roundw
       case rel=>exact⟨k+1,by omega,by go_num,Hz (HU.out.next HR.out ⟨inn_true s0,inn_true s1,inn_true s2⟩),hbw.alloc hsz _⟩
       case measure=>simp [intOf];omega
   ·obtain rfl:k=n1:=by omega
    go_wp2
    go_ret
    have hU:=HU.out
    have hbt:b=true:=HB.out.2 ⟨by have:=inn_true hl;have:=HL.out;omega,by rw [←HL.out] at hU;exact hU.all⟩
    exact⟨by rw [hbt];rfl,hbw⟩
end TabB
namespace TabC
open Go.RowKit Kit Byt Mem TabA TabB
def ChanOk (m:Nat) (r:Tri):Prop:=(0≤r.a∧r.a≤(m:Int)-1)∧(0≤r.b∧r.b≤(m:Int)-1)∧r.a≠r.b∧(0≤r.c∧r.c≤4)
def ChansOk (m:Nat) (C:List Tri):Prop:=C.length≤4∧∀(k:Nat) (r:Tri),C[k]?=some r→ChanOk m r
def endAt (W:List Tri):Nat→Int
 | 0=>0
 | k+1=>match W[k]? with
   | some r=>r.b+r.c
   | none=>0
theorem endAt_next {W:List Tri} {k:Nat} {r:Tri} (h:W[k]?=some r):endAt W (k+1)=r.b+r.c:=by simp [endAt,h]
def WinOk (m:Nat) (fr:Int) (W:List Tri) (k:Nat) (r:Tri):Prop:=(0≤r.a∧r.a≤(m:Int)-1)∧endAt W k≤r.b∧(1≤r.c∧r.c≤fr-r.b)
def WinsOk (m:Nat) (fr:Int) (W:List Tri):Prop:=W.length≤8∧(∀(k:Nat) (r:Tri),W[k]?=some r→WinOk m fr W k r)∧∃(k:Nat) (r:Tri),W[k]?=some r∧r.a=0
def TOk (fr tr:Int) (P W C:List Tri):Prop:=(1≤fr∧fr≤64)∧(1≤tr∧tr≤7)∧PartsOk P∧WinsOk P.length fr W∧ChansOk P.length C
theorem chans_any (t:Ta) (w:World) (h:t.ok w) (b:Bool) (hb:b=true↔ChansOk t.n1 t.C):Calls Tryz.prog 150 #[t.val] w (Yes w b):=by
 obtain⟨fr,A1,n1,c1,P,A2,n2,c2,W,A3,n3,c3,C,tr⟩:=t
 have hm1:n1≤9223372036854775807:=h.P.le
 have hm:n3≤9223372036854775807:=h.C.le
 have HL:=Hz (show C.length=n3 from h.C.1)
 have HP:=Hz (show Tris w A3 n3 c3 C from h.C)
 have HB:=Hz (show b=true↔ChansOk n1 C from hb)
 clear h hb
 show Calls _ _ #[.agg #[.int .i64 fr,.slice A1 n1 c1,.slice A2 n2 c2,.slice A3 n3 c3,.int .i64 tr]] w _
 have HNO:=Hz (show ∀(k:Nat) (r:Tri),C[k]?=some r→¬ChanOk n1 r→b=false from fun k r hr hp=>by
  rw [Bool.eq_false_iff]
  intro hb
  exact hp ((HB.out.1 hb).2 k r hr))
 have HX:=Hz (Bx.new w ⟨fr,A1,n1,c1,P,A2,n2,c2,W,A3,n3,c3,C,tr⟩)
 by_cases hl:4<n3
 ·have hb:b=false:=by
   rw [Bool.eq_false_iff]
   intro hb
   have:=(HB.out.1 hb).1
   have:=HL.out
   omega
  go_enter Tryz.func150,Tryz.ntmps150
  go_wp2
  go_ret
  exact⟨by first|rfl|(rw [hb];rfl),HX.out.bel⟩
 ·go_enter Tryz.func150,Tryz.ntmps150
  go_wp2
  go_loopw [12] (fun i wr=>∃k:Nat,k≤n3∧i=.int .i64 k∧Hid (upto (fun _=>ChanOk n1) C k)∧Hid (Bx w ⟨fr,A1,n1,c1,P,A2,n2,c2,W,A3,n3,c3,C,tr⟩ wr)) (fun i _=>n3-(intOf i).toNat)
  case atStart=>exact⟨0,Nat.zero_le _,rfl,Hz upto.zero,HX⟩
  case round=>
   obtain⟨k,hk,rfl,HU,HX1⟩:=hrel
   have hsz:=HX1.out.sz
   obtain⟨z0,z1,z2,z3,z4⟩:=HX1.out.cell
   dsimp only at z0 z1 z2 z3 z4
   clear HX
   by_cases hlt:k<n3
   ·obtain⟨r,b',o,hr,hok,hA,hb',q0,q1,q2⟩:=(HP.out.below HX1.out.bel).at_ hlt
    subst hA
    have HR:=Hz hr
    have HO:=Hz hok
    clear hr hok
    cases s0:inn r.a 0 ((n1:Int)-1)
    ·go_wp2_with (go_at_call 196;refine (has_any _ _ _ _ _ _ _ _ _ _ _ _ hm1 _).mono ?_;rintro e w' ⟨rfl,rfl⟩)
     go_ret
     exact⟨by rw [HNO.out k r HR.out (fun hp=>inn_false s0 hp.1)];rfl,((HX1.out.alloc _).alloc _).bel⟩
    ·cases s1:inn r.b 0 ((n1:Int)-1)
     ·go_wp2_with (go_at_call 196;refine (has_any _ _ _ _ _ _ _ _ _ _ _ _ hm1 _).mono ?_;rintro e w' ⟨rfl,rfl⟩)
      go_ret
      exact⟨by rw [HNO.out k r HR.out (fun hp=>inn_false s1 hp.2.1)];rfl,(((HX1.out.alloc _).alloc _).alloc _).bel⟩
     ·by_cases he:r.a=r.b
      ·have he':(r.a==r.b)=true:=by simpa using he
       have HE:=Hz he
       clear he
       go_wp2_with (go_at_call 196;refine (has_any _ _ _ _ _ _ _ _ _ _ _ _ hm1 _).mono ?_;rintro e w' ⟨rfl,rfl⟩)
       go_ret
       exact⟨by rw [HNO.out k r HR.out (fun hp=>hp.2.2.1 HE.out)];rfl,(((HX1.out.alloc _).alloc _).alloc _).bel⟩
      ·have he':(r.a==r.b)=false:=by simpa using he
       have HE:=Hz he
       clear he
       cases s2:inn r.c 0 4
       ·go_wp2_with (first
         | (go_at_call 196;refine (has_any _ _ _ _ _ _ _ _ _ _ _ _ hm1 _).mono ?_;rintro e w' ⟨rfl,rfl⟩)
         | (go_at_call 147;refine (within_any _ _ _ _).mono ?_;rintro e w' ⟨rfl,rfl⟩))
        go_ret
        exact⟨by rw [HNO.out k r HR.out (fun hp=>inn_false s2 hp.2.2.2)];rfl,(((HX1.out.alloc _).alloc _).alloc _).bel⟩
       ·go_wp2_with (first
         | (go_at_call 196;refine (has_any _ _ _ _ _ _ _ _ _ _ _ _ hm1 _).mono ?_;rintro e w' ⟨rfl,rfl⟩)
         | (go_at_call 147;refine (within_any _ _ _ _).mono ?_;rintro e w' ⟨rfl,rfl⟩))
        go_roundw
        case rel=>exact⟨k+1,by omega,by go_num,Hz (HU.out.next HR.out ⟨inn_true s0,inn_true s1,HE.out,inn_true s2⟩),Hz (((HX1.out.alloc _).alloc _).alloc _)⟩
        case measure=>simp [intOf];omega
   ·obtain rfl:k=n3:=by omega
    go_wp2
    go_ret
    have hU:=HU.out
    have hbt:b=true:=HB.out.2 ⟨by have:=HL.out;omega,by rw [←HL.out] at hU;exact hU.all⟩
    exact⟨by rw [hbt];rfl,HX1.out.bel⟩
def maint (W:List Tri) (k:Nat):Prop:=∃(j:Nat) (r:Tri),j<k∧W[j]?=some r∧r.a=0
theorem maint.next {W:List Tri} {k:Nat} {r:Tri} (hr:W[k]?=some r):maint W (k+1)↔maint W k∨r.a=0:=by
 constructor
 ·rintro⟨j,r',hj,hr',h0⟩
  rcases Nat.lt_or_ge j k with h1|h1
  ·exact .inl ⟨j,r',h1,hr',h0⟩
  ·obtain rfl:j=k:=by omega
   rw [hr] at hr'
   injection hr' with hr'
   exact .inr (hr'▸h0)
 ·rintro (⟨j,r',hj,hr',h0⟩|h0)
  ·exact⟨j,r',by omega,hr',h0⟩
  ·exact⟨k,r,by omega,hr,h0⟩
theorem wins_any (t:Ta) (w:World) (h:t.ok w) (h0:1≤t.fr) (h64:t.fr≤64) (b:Bool) (hb:b=true↔WinsOk t.n1 t.fr t.W):Calls Tryz.prog 149 #[t.val] w (Yes w b):=by
 obtain⟨fr,A1,n1,c1,P,A2,n2,c2,W,A3,n3,c3,C,tr⟩:=t
 have h0:1≤fr:=h0
 have h64:fr≤64:=h64
 have hm1:n1≤9223372036854775807:=h.P.le
 have hm:n2≤9223372036854775807:=h.W.le
 have HL:=Hz (show W.length=n2 from h.W.1)
 have HP:=Hz (show Tris w A2 n2 c2 W from h.W)
 have HB:=Hz (show b=true↔WinsOk n1 fr W from hb)
 clear h hb
 show Calls _ _ #[.agg #[.int .i64 fr,.slice A1 n1 c1,.slice A2 n2 c2,.slice A3 n3 c3,.int .i64 tr]] w _
 have HNO:=Hz (show ∀(k:Nat) (r:Tri),W[k]?=some r→¬WinOk n1 fr W k r→b=false from fun k r hr hp=>by
  rw [Bool.eq_false_iff]
  intro hb
  exact hp ((HB.out.1 hb).2.1 k r hr))
 have HX:=Hz (Bx.new w ⟨fr,A1,n1,c1,P,A2,n2,c2,W,A3,n3,c3,C,tr⟩)
 by_cases hl:8<n2
 ·have hb:b=false:=by
   rw [Bool.eq_false_iff]
   intro hb
   have:=(HB.out.1 hb).1
   have:=HL.out
   omega
  go_enter Tryz.func149,Tryz.ntmps149
  go_wp2
  go_ret
  exact⟨by first|rfl|(rw [hb];rfl),HX.out.bel⟩
 ·go_enter Tryz.func149,Tryz.ntmps149
  go_wp2
  go_loopw [3,4,14] (fun e m i wr=>∃(k:Nat) (ev:Int) (mb:Bool),k≤n2∧i=.int .i64 k∧e=.int .i64 ev∧m=.bool mb∧Hid (ev=endAt W k)∧0≤ev∧ev≤fr∧Hid (mb=true↔maint W k)∧Hid (upto (WinOk n1 fr W) W k)∧Hid (Bx w ⟨fr,A1,n1,c1,P,A2,n2,c2,W,A3,n3,c3,C,tr⟩ wr)) (fun _ _ i _=>n2-(intOf i).toNat)
  case atStart=>exact⟨0,0,false,Nat.zero_le _,rfl,rfl,rfl,Hz rfl,by omega,by omega,Hz ⟨fun h=>(by cases h),fun⟨_,_,h,_⟩=>by omega⟩,Hz upto.zero,HX⟩
  case round=>
   obtain⟨k,ev,mb,hk,rfl,rfl,rfl,HE,e0,e1,HM,HU,HX1⟩:=hrel
   have hsz:=HX1.out.sz
   obtain⟨z0,z1,z2,z3,z4⟩:=HX1.out.cell
   dsimp only at z0 z1 z2 z3 z4
   clear HX
   by_cases hlt:k<n2
   ·obtain⟨r,b',o,hr,hok,hA,hb',q0,q1,q2⟩:=(HP.out.below HX1.out.bel).at_ hlt
    subst hA
    have HR:=Hz hr
    obtain⟨oa0,oa1,ob0,ob1,oc0,oc1⟩:=hok
    clear hr
    cases s0:inn r.a 0 ((n1:Int)-1)
    ·go_wp2_with (go_at_call 196;refine (has_any _ _ _ _ _ _ _ _ _ _ _ _ hm1 _).mono ?_;rintro e w' ⟨rfl,rfl⟩)
     go_ret
     exact⟨by rw [HNO.out k r HR.out (fun hp=>inn_false s0 hp.1)];rfl,((HX1.out.alloc _).alloc _).bel⟩
    ·by_cases h1:r.b<ev
     ·go_wp2_with (go_at_call 196;refine (has_any _ _ _ _ _ _ _ _ _ _ _ _ hm1 _).mono ?_;rintro e w' ⟨rfl,rfl⟩)
      go_ret
      exact⟨by rw [HNO.out k r HR.out (fun hp=>by have:=hp.2.1;have:=HE.out;omega)];rfl,((HX1.out.alloc _).alloc _).bel⟩
     ·cases s2:inn r.c 1 (fr-r.b)
      ·go_wp2_with (first
        | (go_at_call 196;refine (has_any _ _ _ _ _ _ _ _ _ _ _ _ hm1 _).mono ?_;rintro e w' ⟨rfl,rfl⟩)
        | (go_at_call 147;refine (within_any _ _ _ _).mono ?_;rintro e w' ⟨rfl,rfl⟩))
       go_ret
       exact⟨by rw [HNO.out k r HR.out (fun hp=>inn_false s2 hp.2.2)];rfl,((HX1.out.alloc _).alloc _).bel⟩
      ·have hc:=inn_true s2
       have hnx:=Hz (endAt_next HR.out)
       have hwo:=Hz (show WinOk n1 fr W k r from⟨inn_true s0,by have:=HE.out;omega,hc⟩)
       have hmn:=Hz (maint.next HR.out)
       cases mb
       ·by_cases ha:r.a=0
        ·have ha':(r.a==0)=true:=by simpa using ha
         have HA:=Hz ha
         clear ha
         go_wp2_with (first
          | (go_at_call 196;refine (has_any _ _ _ _ _ _ _ _ _ _ _ _ hm1 _).mono ?_;rintro e w' ⟨rfl,rfl⟩)
          | (go_at_call 147;refine (within_any _ _ _ _).mono ?_;rintro e w' ⟨rfl,rfl⟩))
         go_roundw
         case rel=>exact⟨k+1,r.b+r.c,true,by omega,by go_num,rfl,rfl,Hz hnx.out.symm,by omega,by omega,Hz ⟨fun _=>hmn.out.2 (.inr HA.out),fun _=>rfl⟩,Hz (HU.out.next HR.out hwo.out),Hz ((HX1.out.alloc _).alloc _)⟩
         case measure=>simp [intOf];omega
        ·have ha':(r.a==0)=false:=by simpa using ha
         have HA:=Hz ha
         clear ha
         go_wp2_with (first
          | (go_at_call 196;refine (has_any _ _ _ _ _ _ _ _ _ _ _ _ hm1 _).mono ?_;rintro e w' ⟨rfl,rfl⟩)
          | (go_at_call 147;refine (within_any _ _ _ _).mono ?_;rintro e w' ⟨rfl,rfl⟩))
         go_roundw
         case rel=>exact⟨k+1,r.b+r.c,false,by omega,by go_num,rfl,rfl,Hz hnx.out.symm,by omega,by omega,Hz ⟨fun h=>(by cases h),fun h=>by
          rcases hmn.out.1 h with h|h
          ·exact HM.out.2 h
          ·exact absurd h HA.out⟩,Hz (HU.out.next HR.out hwo.out),Hz ((HX1.out.alloc _).alloc _)⟩
         case measure=>simp [intOf];omega
       ·go_wp2_with (first
         | (go_at_call 196;refine (has_any _ _ _ _ _ _ _ _ _ _ _ _ hm1 _).mono ?_;rintro e w' ⟨rfl,rfl⟩)
         | (go_at_call 147;refine (within_any _ _ _ _).mono ?_;rintro e w' ⟨rfl,rfl⟩))
        go_roundw
        case rel=>exact⟨k+1,r.b+r.c,true,by omega,by go_num,rfl,rfl,Hz hnx.out.symm,by omega,by omega,Hz ⟨fun _=>hmn.out.2 (.inl (HM.out.1 (by first|trivial|rfl))),fun _=>rfl⟩,Hz (HU.out.next HR.out hwo.out),Hz ((HX1.out.alloc _).alloc _)⟩
        case measure=>simp [intOf];omega
   ·obtain rfl:k=n2:=by omega
    go_wp2
    go_ret
    have hU:=HU.out
    have hbt:b=mb:=by
     rw [Bool.eq_iff_iff,HB.out,HM.out]
     rw [←HL.out] at hU
     exact⟨fun h=>by
      obtain⟨k,r,hr,ha⟩:=h.2.2
      exact⟨k,r,by have:=(List.getElem?_eq_some_iff.1 hr).1;have:=HL.out;omega,hr,ha⟩,fun⟨j,r,_,hr,ha⟩=>⟨by have:=HL.out;omega,hU.all,j,r,hr,ha⟩⟩
    exact⟨by rw [hbt];rfl,HX1.out.bel⟩
end TabC
namespace TabD
open Go.RowKit Kit Byt Mem TabA TabB TabC
def right (t:Ta):Prop:=TOk t.fr t.tr t.P t.W t.C
open Classical in
theorem bool_of (p:Prop):∃b:Bool,b=true↔p:=⟨decide p,by simp⟩
theorem right_any (t:Ta) (w:World) (h:t.ok w) (b:Bool) (hb:b=true↔right t):Calls Tryz.prog 98 #[t.val] w (Yes w b):=by
 obtain⟨fr,A1,n1,c1,P,A2,n2,c2,W,A3,n3,c3,C,tr⟩:=t
 have hn1:P.length=n1:=h.P.1
 have hb:b=true↔(1≤fr∧fr≤64)∧(1≤tr∧tr≤7)∧PartsOk P∧WinsOk n1 fr W∧ChansOk n1 C:=by rw [←hn1];exact hb
 have HB:=Hz hb
 have HO:=Hz h
 clear h hb hn1
 show Calls _ _ #[.agg #[.int .i64 fr,.slice A1 n1 c1,.slice A2 n2 c2,.slice A3 n3 c3,.int .i64 tr]] w _
 have HX:=Hz (Bx.new w ⟨fr,A1,n1,c1,P,A2,n2,c2,W,A3,n3,c3,C,tr⟩)
 have HF:=Hz (show ∀p:Prop,(b=true→p)→¬p→b=false from fun p h hp=>by rw [Bool.eq_false_iff];exact fun hb=>hp (h hb))
 cases s0:inn fr 1 64
 ·have hbf:=Hz (HF.out _ (fun h=>(HB.out.1 h).1) (inn_false s0))
  go_enter Tryz.func98,Tryz.ntmps98
  go_wp2_with (go_at_call 147;refine (within_any _ _ _ _).mono ?_;rintro e w' ⟨rfl,rfl⟩)
  go_ret
  exact⟨by rw [hbf.out];rfl,HX.out.bel⟩
 ·cases s1:inn tr 1 7
  ·have hbf:=Hz (HF.out _ (fun h=>(HB.out.1 h).2.1) (inn_false s1))
   go_enter Tryz.func98,Tryz.ntmps98
   go_wp2_with (go_at_call 147;refine (within_any _ _ _ _).mono ?_;rintro e w' ⟨rfl,rfl⟩)
   go_ret
   exact⟨by rw [hbf.out];rfl,HX.out.bel⟩
  ·have HFR:=Hz (inn_true s0)
   have HTR:=Hz (inn_true s1)
   obtain⟨bp,hbp⟩:=bool_of (PartsOk P)
   obtain⟨bw,hbw⟩:=bool_of (WinsOk n1 fr W)
   obtain⟨bc,hbc⟩:=bool_of (ChansOk n1 C)
   have HBP:=Hz hbp
   have HBW:=Hz hbw
   have HBC:=Hz hbc
   clear hbp hbw hbc
   have HR1:=fun w' (hb:Below w.heap.size w w')=>parts_any ⟨fr,A1,n1,c1,P,A2,n2,c2,W,A3,n3,c3,C,tr⟩ w' (HO.out.below hb) bp HBP.out
   have HR2:=fun w' (hb:Below w.heap.size w w')=>wins_any ⟨fr,A1,n1,c1,P,A2,n2,c2,W,A3,n3,c3,C,tr⟩ w' (HO.out.below hb) HFR.out.1 HFR.out.2 bw HBW.out
   have HR3:=fun w' (hb:Below w.heap.size w w')=>chans_any ⟨fr,A1,n1,c1,P,A2,n2,c2,W,A3,n3,c3,C,tr⟩ w' (HO.out.below hb) bc HBC.out
   have H1:=Hz HR1
   have H2:=Hz HR2
   have H3:=Hz HR3
   clear HR1 HR2 HR3
   go_enter Tryz.func98,Tryz.ntmps98
   go_wp2_with (go_at_call 147;refine (within_any _ _ _ _).mono ?_;rintro e w' ⟨rfl,rfl⟩)
   refine (H1.out _ HX.out.bel).mono ?_
   rintro e w2 ⟨rfl,hb2⟩
   have HX2:=Hz (HX.out.step hb2)
   clear hb2
   obtain⟨y0,y1,y2,y3,y4⟩:=HX2.out.cell
   dsimp only at y0 y1 y2 y3 y4
   cases bp
   ·have hbf:=Hz (HF.out _ (fun h=>(HB.out.1 h).2.2.1) (fun h=>by have:=HBP.out.2 h;cases this))
    go_wp2_with fail
    go_ret
    exact⟨by rw [hbf.out];rfl,HX2.out.bel⟩
   ·go_wp2_with fail
    refine (H2.out _ HX2.out.bel).mono ?_
    rintro e w3 ⟨rfl,hb3⟩
    have HX3:=Hz (HX2.out.step hb3)
    clear hb3 y0 y1 y2 y3 y4 HX2
    obtain⟨y0,y1,y2,y3,y4⟩:=HX3.out.cell
    dsimp only at y0 y1 y2 y3 y4
    cases bw
    ·have hbf:=Hz (HF.out _ (fun h=>(HB.out.1 h).2.2.2.1) (fun h=>by have:=HBW.out.2 h;cases this))
     go_wp2_with fail
     go_ret
     exact⟨by rw [hbf.out];rfl,HX3.out.bel⟩
    ·go_wp2_with fail
     refine (H3.out _ HX3.out.bel).mono ?_
     rintro e w4 ⟨rfl,hb4⟩
     have HX4:=Hz (HX3.out.step hb4)
     clear hb4
     have hbb:=Hz (show b=bc from by
      rw [Bool.eq_iff_iff,HB.out]
      exact⟨fun h=>HBC.out.2 h.2.2.2.2,fun h=>⟨HFR.out,HTR.out,HBP.out.1 (by first|trivial|rfl),HBW.out.1 (by first|trivial|rfl),HBC.out.1 h⟩⟩)
     go_wp2_with fail
     go_ret
     exact⟨by rw [hbb.out];rfl,HX4.out.bel⟩
end TabD
namespace CpaM
open Go.RowKit Kit Byt Mem
open TabA (Tri Ta)
open ImgA (Im)
open BitM (hb pw)
def pof (t:Ta) (p:Int):Tri:=t.P.getD p.toNat ⟨0,0,0⟩
def From (t:Ta) (p:Int) (k:Nat):Prop:=∃r,t.C[k]?=some r∧r.a=p
def To (t:Ta) (p:Int) (k:Nat):Prop:=∃r,t.C[k]?=some r∧r.b=p
def PortBad (t:Ta) (p:Int) (i:Im):Prop:=∃k:Nat,k<4∧((hb i.s k=true∧¬From t p k)∨(hb i.r k=true∧¬To t p k))
def chk (br bi bx:Bool) (t:Ta) (p:Int) (i:Im) (v:Int):Int:=
 if br=false then 9 else if p<0∨(t.n1:Int)≤p∨bi=false then 3 else if i.p≠p∨i.h≠(pof t p).c then 12
 else if (pof t p).a<i.m∨(pof t p).b<i.f then 14 else if bx=true then 15 else if i.v≤v then 13 else 0
structure Tri3 (br bi bx:Bool) (t:Ta) (p:Int) (i:Im):Prop where
 rt:br=true↔TabD.right t
 ri:bi=true↔ImgB.right i
 rx:bx=true↔PortBad t p i
theorem tri3 (t:Ta) (p:Int) (i:Im):∃br bi bx,Tri3 br bi bx t p i:=by
 obtain⟨br,h1⟩:=TabD.bool_of (TabD.right t)
 obtain⟨bi,h2⟩:=TabD.bool_of (ImgB.right i)
 obtain⟨bx,h3⟩:=TabD.bool_of (PortBad t p i)
 exact⟨br,bi,bx,h1,h2,h3⟩
structure Bits4 (P:Nat→Prop) (x:Int):Prop where
 lo:0≤x
 hi:x≤15
 bit:∀k:Nat,k<4→(hb x k=true↔P k)
end CpaM
namespace TabE
open Go.RowKit Kit Byt Mem TabA TabB TabC TabD
def tcells (R:List Tri):List Value:=R.flatMap Tri.cells
theorem tcells_cons (r:Tri) (R:List Tri):tcells (r :: R)=.int .i64 r.a :: .int .i64 r.b :: .int .i64 r.c :: tcells R:=rfl
theorem tcells_len:(R:List Tri)→(tcells R).length=R.length*3
 | []=>rfl
 | r :: R=>by rw [tcells_cons];simp [tcells_len R];omega
theorem tcells_at {R:List Tri} {k:Nat} {r:Tri} (h:R[k]?=some r) {j:Nat} {u:Value} (hj:r.cells[j]?=some u):(tcells R)[k*3+j]?=some u:=by
 induction R generalizing k with
 | nil=>simp at h
 | cons r' R ih=>
   cases k with
   | zero=>
     simp at h
     subst h
     have hl:j<3:=by have:=(List.getElem?_eq_some_iff.1 hj).1;simpa [Tri.cells] using this
     rw [tcells_cons]
     match j,hl with
     | 0,_=>simpa [Tri.cells] using hj
     | 1,_=>simpa [Tri.cells] using hj
     | 2,_=>simpa [Tri.cells] using hj
   | succ k=>
     rw [tcells_cons,show (k+1)*3+j=k*3+j+1+1+1 by omega]
     simpa using ih (by simpa using h)
end TabE
namespace TabH
open Go.RowKit Kit Byt Mem TabA TabB TabC TabD TabE
def bs (S:List Bool):List Value:=S.map Value.bool
theorem bs_at {S:List Bool} {k:Nat} (h:k<S.length):(bs S)[k]?=some (.bool (S.getD k false)):=by
 simp [bs,List.getElem?_map,List.getElem?_eq_getElem h]
theorem bs_set (S:List Bool) (k:Nat) (v:Bool):(bs S).set k (.bool v)=bs (S.set k v):=by simp [bs,List.map_set]
end TabH
namespace TabI
open Go.RowKit Kit Byt Mem TabA TabB TabC TabD TabE TabH
theorem info_of {t:TypeId} {z:Value} {size bytes:Nat} (h:(Tryz.prog.info? t).map (fun i=>(i.zero,i.size,i.bytes))=some (some z,size,bytes)):∃i,Tryz.prog.info? t=some i∧i.zero=some z∧i.size=size∧i.bytes=bytes:=by
 cases hi:Tryz.prog.info? t with
 | none=>rw [hi] at h;cases h
 | some i=>
   rw [hi] at h
   simp at h
   exact⟨i,rfl,h.1,h.2.1,h.2.2⟩
theorem info_bool:(Tryz.prog.info? 4).map (fun i=>(i.zero,i.size,i.bytes))=some (some (.bool false),1,1):=by kernel_rfl
end TabI
end Go.Proofs.YtkepomnbhnnliaaGreatDoor
