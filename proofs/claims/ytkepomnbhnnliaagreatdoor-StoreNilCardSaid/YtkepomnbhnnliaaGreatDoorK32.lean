/- The parts that this claim uses of: StoN6. Conditions: those that each law names. -/
import Derived.Test.YtkepomnbhnnliaaGreatDoorK31
set_option maxRecDepth 100000
set_option maxHeartbeats 12800000
namespace Go.Proofs.YtkepomnbhnnliaaGreatDoor
namespace StoN
open Go.RowKit Kit Byt Mem DskA DskE RecM StgM CmtM StoM StoW
open ImgT (Ig iG)
open ImgU (Gi)
open RecA (rval rcells rok sval scells sok)
def btR (r:Rc):Rc:=if r.a=r.c then r else if r.l=0 then ⟨0,0,r.c,r.c,0,1+r.a⟩ else { r with l:=r.l-1 }
theorem booted_any (r0 r1 a c l b:Int) (ha:0≤a∧a≤1) (hl:0≤l∧l≤7) (w:World) :
 Calls Tryz.prog 77 #[.agg #[.int .i64 r0,.int .i64 r1,.int .i64 a,.int .i64 c,.int .i64 l,.int .i64 b]] w fun e w'=>e=.returned (rval (btR ⟨r0,r1,a,c,l,b⟩))∧Below w.heap.size w w':=by
 have L0:=Hz (show Below w.heap.size w ((w.alloc (.cells #[.int .i64 r0,.int .i64 r1,.int .i64 a,.int .i64 c,.int .i64 l,.int .i64 b] 64)).alloc (.cells #[.int .i64 0,.int .i64 0,.int .i64 0,.int .i64 0,.int .i64 0,.int .i64 0] 64)) from ((Below.refl _ _).alloc (Nat.le_refl _) _).alloc (by rw [World.size_alloc];omega) _)
 by_cases hac:a=c
 ·have HR:=Hz (show btR ⟨r0,r1,a,c,l,b⟩=⟨r0,r1,a,c,l,b⟩ from if_pos hac)
  subst hac
  go_enter Tryz.func77,Tryz.ntmps77
  go_wp2
  rw [HR.out]
  refine bodyPost_ret (v:=.agg #[.int .i64 r0,.int .i64 r1,.int .i64 a,.int .i64 a,.int .i64 l,.int .i64 b]) (by simp [results,Tryz.results77,go_sem]) rfl ?_
  exact⟨rfl,((Below.refl _ _).alloc (Nat.le_refl _) _).alloc (by rw [World.size_alloc];omega) _⟩
 ·have hne:(a==c)=false:=by simpa using hac
  by_cases h0:l=0
  ·subst h0
   have HR:=Hz (show btR ⟨r0,r1,a,c,0,b⟩=⟨0,0,c,c,0,1+a⟩ from by unfold btR;rw [if_neg hac,if_pos rfl])
   rcases (show a=0∨a=1 from by omega) with rfl|rfl
   ·go_enter Tryz.func77,Tryz.ntmps77
    go_wp2
    go_region
    go_wp2
    rw [HR.out]
    refine bodyPost_ret (v:=.agg #[.int .i64 0,.int .i64 0,.int .i64 c,.int .i64 c,.int .i64 0,.int .i64 1]) (by simp [results,Tryz.results77,go_sem]) rfl ?_
    exact⟨rfl,(((Below.refl _ _).alloc (Nat.le_refl _) _).alloc (by rw [World.size_alloc];omega) _).drew⟩
   ·go_enter Tryz.func77,Tryz.ntmps77
    go_wp2
    go_region
    go_wp2
    rw [HR.out]
    refine bodyPost_ret (v:=.agg #[.int .i64 0,.int .i64 0,.int .i64 c,.int .i64 c,.int .i64 0,.int .i64 2]) (by simp [results,Tryz.results77,go_sem]) rfl ?_
    exact⟨rfl,(((Below.refl _ _).alloc (Nat.le_refl _) _).alloc (by rw [World.size_alloc];omega) _).drew⟩
  ·have HR:=Hz (show btR ⟨r0,r1,a,c,l,b⟩=⟨r0,r1,a,c,l-1,b⟩ from by unfold btR;rw [if_neg hac,if_neg h0])
   have hne0:(l==0)=false:=by simpa using h0
   have hw:IntKind.i64.wrap (l-1)=l-1:=by rw [IntKind.wrap_i64];omega
   go_enter Tryz.func77,Tryz.ntmps77
   go_wp2
   rw [HR.out]
   refine bodyPost_ret (v:=.agg #[.int .i64 r0,.int .i64 r1,.int .i64 a,.int .i64 c,.int .i64 (l-1),.int .i64 b]) (by simp [results,Tryz.results77,go_sem]) rfl ?_
   exact⟨rfl,((Below.refl _ _).alloc (Nat.le_refl _) _).alloc (by rw [World.size_alloc];omega) _⟩
def Bo (i:Ig) (x:Int) (R:World→Prop) (e:Ending) (w':World):Prop:=∃B m d,e=.returned (.tuple #[.agg #[.int .i64 i.p,.int .i64 i.v,.int .i64 i.h,.int .i64 i.m,.int .i64 i.f,.int .i64 i.s,.int .i64 i.r,.slice B m d],.int .i64 x])∧R w'
section
variable {w:World} {R:World→Prop} {d la s0 s1:Nat} {x:Int}
def Ats (w:World) (zv:Value) (q:Int) (Q:World→Ending→World→Prop):Prop:=∀w',Below w.heap.size w w'→Calls Tryz.prog 76 #[zv,.int .i64 q] w' (Q w')
def Trs (w:World) (d la s0 s1:Nat) (b:Bool):Prop:=∀w',Below w.heap.size w w'→Calls Tryz.prog 78 #[pval d la s0 s1] w' fun e w''=>e=.returned (.bool b)∧Below w'.heap.size w' w''
theorem size_rc6:(Tryz.prog.info? 64).map (·.size)=some 6:=by kernel_rfl
theorem boot_no (zv:Value) (q:Int) (hx:x≠0) (h:Ats w zv q (fun w'=>No w' x)):Calls Tryz.prog 25 #[zv,.int .i64 q] w (Bo (Ig.no x) x (Below w.heap.size w)):=by
 have L0:=Hz (show Below w.heap.size w (w.alloc (.cells zim.toArray 54)) from (Below.refl _ _).alloc (Nat.le_refl _) _)
 have B0:=Hz (Blk.new w 54 zim)
 have HU:=Hz (h _ L0.out)
 clear h
 go_enter Tryz.func25,Tryz.ntmps25
 go_wp2_with (first
  | (go_at_call 76;refine HU.out.mono ?_;rintro e w1 ⟨rfl,hb1⟩;have L1:=Hz (L0.out.trans (hb1.mono L0.out.size));have B1:=Hz ((B0.out.below hb1).alloc (.cells pzs.toArray 118));clear hb1)
  | (refine wpList_store_blk rfl 54 (.tmp 4) (.tmp 18) rfl w.heap.size rfl zim rfl B1.out rfl size_img8 (one_igcs (Ig.no 0) none 0 0) ?_;intro w9 hB9 ho9))
 have q0:=hB9.out.cell (i:=0) rfl
 have q1:=hB9.out.cell (i:=1) rfl
 have q2:=hB9.out.cell (i:=2) rfl
 have q3:=hB9.out.cell (i:=3) rfl
 have q4:=hB9.out.cell (i:=4) rfl
 have q5:=hB9.out.cell (i:=5) rfl
 have q6:=hB9.out.cell (i:=6) rfl
 have q7:=hB9.out.cell (i:=7) rfl
 refine bodyPost_ret (v:=.tuple #[.agg #[.int .i64 0,.int .i64 0,.int .i64 0,.int .i64 0,.int .i64 0,.int .i64 0,.int .i64 0,.slice none 0 0],.int .i64 x]) (by simp [results,Tryz.results25,go_sem,q0,q1,q2,q3,q4,q5,q6,q7]) rfl ?_
 exact⟨none,0,0,rfl,ho9.out.below (L1.out.alloc L1.out.size _) (Nat.le_refl _) (by have:=L1.out.size;rw [World.size_alloc];omega)⟩
theorem boot_img (zv:Value) (q:Int) (r0 r1 a c l b:Int) (ha:0≤a∧a≤1) (hl:0≤l∧l≤7) (n0 n1 na nc nl nb:Int) (hn:btR ⟨r0,r1,a,c,l,b⟩=⟨n0,n1,na,nc,nl,nb⟩) (i:Ig) (h:Ats w zv q (fun w'=>Is w' d la s0 s1)) (h1:Lat w la r0 r1 a c l b) (h2:Img w s0 s1 na i) (h3:Trs w d la s0 s1 false) (hi:i.e=0) :
 Calls Tryz.prog 25 #[zv,.int .i64 q] w (Bo i 0 (Below w.heap.size w)):=by
 have L0:=Hz (show Below w.heap.size w (w.alloc (.cells zim.toArray 54)) from (Below.refl _ _).alloc (Nat.le_refl _) _)
 have B0:=Hz (Blk.new w 54 zim)
 have HU:=Hz (h _ L0.out)
 have H1:=Hz h1
 have H2:=Hz h2
 have H3:=Hz h3
 have HIE:=Hz hi
 have hbt:=fun w'=>booted_any r0 r1 a c l b ha hl w'
 rw [hn] at hbt
 dsimp only [rval] at hbt
 have HBT:=Hz hbt
 clear h h1 h2 h3 hbt hn hi
 go_enter Tryz.func25,Tryz.ntmps25
 go_wp2_with (first
  | (go_at_call 76;refine HU.out.mono ?_;rintro e w1 ⟨rfl,hb1⟩;have L1a:=L0.out.trans (hb1.mono L0.out.size);have L1:=Hz (L1a.alloc L1a.size (.cells (pcs d la s0 s1).toArray 118));have B1:=Hz ((B0.out.below hb1).alloc (.cells (pcs d la s0 s1).toArray 118));have X1:=Hz (Blk.new w1 118 (pcs d la s0 s1));clear hb1 L1a)
  | (go_at_call 56;refine (H1.out _ L1.out).mono ?_;rintro e w2 ⟨rfl,hb2⟩;have L2:=Hz (L1.out.trans (hb2.mono L1.out.size));have B2:=Hz (B1.out.below hb2);have X2:=Hz (X1.out.below hb2);clear hb2)
  | (go_at_call 77;refine (HBT.out _).mono ?_;rintro e w3 ⟨rfl,hb3⟩;have L3a:=L2.out.trans (hb3.mono L2.out.size);have L3:=Hz (L3a.alloc L3a.size (.cells #[.int .i64 n0,.int .i64 n1,.int .i64 na,.int .i64 nc,.int .i64 nl,.int .i64 nb] 64));have B3:=Hz ((B2.out.below hb3).alloc (.cells #[.int .i64 n0,.int .i64 n1,.int .i64 na,.int .i64 nc,.int .i64 nl,.int .i64 nb] 64));have X3:=Hz ((X2.out.below hb3).alloc (.cells #[.int .i64 n0,.int .i64 n1,.int .i64 na,.int .i64 nc,.int .i64 nl,.int .i64 nb] 64));have R3:=Hz (Blk.new w3 64 [.int .i64 n0,.int .i64 n1,.int .i64 na,.int .i64 nc,.int .i64 nl,.int .i64 nb]);clear hb3 L3a)
  | (refine wpList_load_part rfl 116 (.tmp 25) rfl w1.heap.size 1 rfl [.pointer (some ⟨s0,0,none⟩),.pointer (some ⟨s1,0,none⟩)] X3.out rfl Tryz.underlying116 rfl size_slots ?_)
  | (go_at_call 72;refine (H2.out _ L3.out).mono ?_;rintro e w4 ⟨B4,m4,d4,rfl,hR,hb4⟩;rw [HIE.out];have L4a:=L3.out.trans (hb4.mono L3.out.size);have L4:=Hz (L4a.alloc L4a.size (.cells #[.int .i64 i.p,.int .i64 i.v,.int .i64 i.h,.int .i64 i.m,.int .i64 i.f,.int .i64 i.s,.int .i64 i.r,.slice B4 m4 d4] 54));have B4':=Hz ((B3.out.below hb4).alloc (.cells #[.int .i64 i.p,.int .i64 i.v,.int .i64 i.h,.int .i64 i.m,.int .i64 i.f,.int .i64 i.s,.int .i64 i.r,.slice B4 m4 d4] 54));have X4:=Hz ((X3.out.below hb4).alloc (.cells #[.int .i64 i.p,.int .i64 i.v,.int .i64 i.h,.int .i64 i.m,.int .i64 i.f,.int .i64 i.s,.int .i64 i.r,.slice B4 m4 d4] 54));have R4:=Hz ((R3.out.below hb4).alloc (.cells #[.int .i64 i.p,.int .i64 i.v,.int .i64 i.h,.int .i64 i.m,.int .i64 i.f,.int .i64 i.s,.int .i64 i.r,.slice B4 m4 d4] 54));have I4:=Hz (Blk.new w4 54 [.int .i64 i.p,.int .i64 i.v,.int .i64 i.h,.int .i64 i.m,.int .i64 i.f,.int .i64 i.s,.int .i64 i.r,.slice B4 m4 d4]);clear hb4 hR L4a)
  | (refine wpList_load_blk rfl 118 (.tmp 6) rfl w1.heap.size rfl X4.out Tryz.underlying118 rfl size_part ?_)
  | (go_at_call 78;refine (H3.out _ L4.out).mono ?_;rintro e w5 ⟨rfl,hb5⟩;have L5:=Hz (L4.out.trans (hb5.mono L4.out.size));have B5:=Hz (B4'.out.below hb5);have X5:=Hz (X4.out.below hb5);have R5:=Hz (R4.out.below hb5);have I5:=Hz (I4.out.below hb5);have x0:=X5.out.cell (i:=0) rfl;clear hb5)
  | (refine wpList_load_blk rfl 54 (.tmp 9) rfl w4.heap.size rfl I5.out Tryz.underlying54 rfl size_img8 ?_)
  | (refine wpList_store_blk rfl 54 (.tmp 4) (.tmp 50) rfl w.heap.size rfl (igcs i B4 m4 d4) rfl B5.out rfl size_img8 (one_igcs i B4 m4 d4) ?_;intro w9 hB9 ho9))
 have q0:=hB9.out.cell (i:=0) rfl
 have q1:=hB9.out.cell (i:=1) rfl
 have q2:=hB9.out.cell (i:=2) rfl
 have q3:=hB9.out.cell (i:=3) rfl
 have q4:=hB9.out.cell (i:=4) rfl
 have q5:=hB9.out.cell (i:=5) rfl
 have q6:=hB9.out.cell (i:=6) rfl
 have q7:=hB9.out.cell (i:=7) rfl
 refine bodyPost_ret (v:=.tuple #[.agg #[.int .i64 i.p,.int .i64 i.v,.int .i64 i.h,.int .i64 i.m,.int .i64 i.f,.int .i64 i.s,.int .i64 i.r,.slice B4 m4 d4],.int .i64 0]) (by simp [results,Tryz.results25,go_sem,q0,q1,q2,q3,q4,q5,q6,q7]) rfl ?_
 exact⟨B4,m4,d4,rfl,ho9.out.below L5.out (Nat.le_refl _) L5.out.size⟩
theorem boot_no_save (zv:Value) (q:Int) (r0 r1 a c l b:Int) (ha:0≤a∧a≤1) (hl:0≤l∧l≤7) (n0 n1 na nc nl nb:Int) (hn:btR ⟨r0,r1,a,c,l,b⟩=⟨n0,n1,na,nc,nl,nb⟩) (i:Ig) (h:Ats w zv q (fun w'=>Is w' d la s0 s1)) (h1:Lat w la r0 r1 a c l b) (h2:Img w s0 s1 na i) (h3:Trs w d la s0 s1 true) (hi:i.e=0∨i.e=8) (hx:x≠0)
 (h4:∀w',Below w.heap.size w w'→Calls Tryz.prog 75 #[.pointer (some ⟨la,0,none⟩),.agg #[.int .i64 n0,.int .i64 n1,.int .i64 na,.int .i64 nc,.int .i64 nl,.int .i64 nb]] w' fun e w''=>e=.returned (.int .i64 x)∧∀b C,Blk w' b 54 C→w.heap.size≤b→Blk w'' b 54 C∧∀w3,Only b w'' w3→R w3) :
 Calls Tryz.prog 25 #[zv,.int .i64 q] w (Bo (Ig.no x) x R):=by
 have L0:=Hz (show Below w.heap.size w (w.alloc (.cells zim.toArray 54)) from (Below.refl _ _).alloc (Nat.le_refl _) _)
 have B0:=Hz (Blk.new w 54 zim)
 have HU:=Hz (h _ L0.out)
 have H1:=Hz h1
 have H2:=Hz h2
 have H3:=Hz h3
 have H4:=Hz h4
 have hbt:=fun w'=>booted_any r0 r1 a c l b ha hl w'
 rw [hn] at hbt
 dsimp only [rval] at hbt
 have HBT:=Hz hbt
 clear h h1 h2 h3 hbt hn h4
 rcases hi with HIE|HIE
 ·go_enter Tryz.func25,Tryz.ntmps25
  go_wp2_with (first
   | (go_at_call 76;refine HU.out.mono ?_;rintro e w1 ⟨rfl,hb1⟩;have L1a:=L0.out.trans (hb1.mono L0.out.size);have L1:=Hz (L1a.alloc L1a.size (.cells (pcs d la s0 s1).toArray 118));have B1:=Hz ((B0.out.below hb1).alloc (.cells (pcs d la s0 s1).toArray 118));have X1:=Hz (Blk.new w1 118 (pcs d la s0 s1));clear hb1 L1a)
   | (go_at_call 56;refine (H1.out _ L1.out).mono ?_;rintro e w2 ⟨rfl,hb2⟩;have L2:=Hz (L1.out.trans (hb2.mono L1.out.size));have B2:=Hz (B1.out.below hb2);have X2:=Hz (X1.out.below hb2);clear hb2)
   | (go_at_call 77;refine (HBT.out _).mono ?_;rintro e w3 ⟨rfl,hb3⟩;have L3a:=L2.out.trans (hb3.mono L2.out.size);have L3:=Hz (L3a.alloc L3a.size (.cells #[.int .i64 n0,.int .i64 n1,.int .i64 na,.int .i64 nc,.int .i64 nl,.int .i64 nb] 64));have B3:=Hz ((B2.out.below hb3).alloc (.cells #[.int .i64 n0,.int .i64 n1,.int .i64 na,.int .i64 nc,.int .i64 nl,.int .i64 nb] 64));have X3:=Hz ((X2.out.below hb3).alloc (.cells #[.int .i64 n0,.int .i64 n1,.int .i64 na,.int .i64 nc,.int .i64 nl,.int .i64 nb] 64));have R3:=Hz (Blk.new w3 64 [.int .i64 n0,.int .i64 n1,.int .i64 na,.int .i64 nc,.int .i64 nl,.int .i64 nb]);clear hb3 L3a)
   | (refine wpList_load_part rfl 116 (.tmp 25) rfl w1.heap.size 1 rfl [.pointer (some ⟨s0,0,none⟩),.pointer (some ⟨s1,0,none⟩)] X3.out rfl Tryz.underlying116 rfl size_slots ?_)
   | (go_at_call 72;refine (H2.out _ L3.out).mono ?_;rintro e w4 ⟨B4,m4,d4,rfl,hR,hb4⟩;rw [HIE];have L4a:=L3.out.trans (hb4.mono L3.out.size);have HW4:=Hz L4a.size;have L4:=Hz (L4a.alloc L4a.size (.cells #[.int .i64 i.p,.int .i64 i.v,.int .i64 i.h,.int .i64 i.m,.int .i64 i.f,.int .i64 i.s,.int .i64 i.r,.slice B4 m4 d4] 54));have B4':=Hz ((B3.out.below hb4).alloc (.cells #[.int .i64 i.p,.int .i64 i.v,.int .i64 i.h,.int .i64 i.m,.int .i64 i.f,.int .i64 i.s,.int .i64 i.r,.slice B4 m4 d4] 54));have X4:=Hz ((X3.out.below hb4).alloc (.cells #[.int .i64 i.p,.int .i64 i.v,.int .i64 i.h,.int .i64 i.m,.int .i64 i.f,.int .i64 i.s,.int .i64 i.r,.slice B4 m4 d4] 54));have R4:=Hz ((R3.out.below hb4).alloc (.cells #[.int .i64 i.p,.int .i64 i.v,.int .i64 i.h,.int .i64 i.m,.int .i64 i.f,.int .i64 i.s,.int .i64 i.r,.slice B4 m4 d4] 54));have I4:=Hz (Blk.new w4 54 [.int .i64 i.p,.int .i64 i.v,.int .i64 i.h,.int .i64 i.m,.int .i64 i.f,.int .i64 i.s,.int .i64 i.r,.slice B4 m4 d4]);clear hb4 hR L4a)
   | (refine wpList_load_blk rfl 118 (.tmp 6) rfl w1.heap.size rfl X4.out Tryz.underlying118 rfl size_part ?_)
   | (go_at_call 78;refine (H3.out _ L4.out).mono ?_;rintro e w5 ⟨rfl,hb5⟩;have L5:=Hz (L4.out.trans (hb5.mono L4.out.size));have B5:=Hz (B4'.out.below hb5);have X5:=Hz (X4.out.below hb5);have R5:=Hz (R4.out.below hb5);have I5:=Hz (I4.out.below hb5);have x0:=X5.out.cell (i:=0) rfl;clear hb5)
   | (refine wpList_load_blk rfl 64 (.tmp 8) rfl w3.heap.size rfl R5.out Tryz.underlying64 rfl size_rc6 ?_)
   | (go_at_call 75;refine (H4.out _ L5.out).mono ?_;rintro e w6 ⟨rfl,hk6⟩;have HR6:=Hz (hk6 _ _ B5.out (Nat.le_refl _)).2;have B6:=Hz (hk6 _ _ B5.out (Nat.le_refl _)).1;have I6:=Hz (hk6 _ _ I5.out HW4.out).1;clear hk6)
   | (refine wpList_store_blk rfl 54 (.tmp 4) (.tmp 48) rfl w.heap.size rfl zim rfl B6.out rfl size_img8 (one_igcs (Ig.no 0) none 0 0) ?_;intro w9 hB9 ho9))
  have q0:=hB9.out.cell (i:=0) rfl
  have q1:=hB9.out.cell (i:=1) rfl
  have q2:=hB9.out.cell (i:=2) rfl
  have q3:=hB9.out.cell (i:=3) rfl
  have q4:=hB9.out.cell (i:=4) rfl
  have q5:=hB9.out.cell (i:=5) rfl
  have q6:=hB9.out.cell (i:=6) rfl
  have q7:=hB9.out.cell (i:=7) rfl
  refine bodyPost_ret (v:=.tuple #[.agg #[.int .i64 0,.int .i64 0,.int .i64 0,.int .i64 0,.int .i64 0,.int .i64 0,.int .i64 0,.slice none 0 0],.int .i64 x]) (by simp [results,Tryz.results25,go_sem,q0,q1,q2,q3,q4,q5,q6,q7]) rfl ?_
  exact⟨none,0,0,rfl,HR6.out w9 ho9.out⟩
 ·go_enter Tryz.func25,Tryz.ntmps25
  go_wp2_with (first
   | (go_at_call 76;refine HU.out.mono ?_;rintro e w1 ⟨rfl,hb1⟩;have L1a:=L0.out.trans (hb1.mono L0.out.size);have L1:=Hz (L1a.alloc L1a.size (.cells (pcs d la s0 s1).toArray 118));have B1:=Hz ((B0.out.below hb1).alloc (.cells (pcs d la s0 s1).toArray 118));have X1:=Hz (Blk.new w1 118 (pcs d la s0 s1));clear hb1 L1a)
   | (go_at_call 56;refine (H1.out _ L1.out).mono ?_;rintro e w2 ⟨rfl,hb2⟩;have L2:=Hz (L1.out.trans (hb2.mono L1.out.size));have B2:=Hz (B1.out.below hb2);have X2:=Hz (X1.out.below hb2);clear hb2)
   | (go_at_call 77;refine (HBT.out _).mono ?_;rintro e w3 ⟨rfl,hb3⟩;have L3a:=L2.out.trans (hb3.mono L2.out.size);have L3:=Hz (L3a.alloc L3a.size (.cells #[.int .i64 n0,.int .i64 n1,.int .i64 na,.int .i64 nc,.int .i64 nl,.int .i64 nb] 64));have B3:=Hz ((B2.out.below hb3).alloc (.cells #[.int .i64 n0,.int .i64 n1,.int .i64 na,.int .i64 nc,.int .i64 nl,.int .i64 nb] 64));have X3:=Hz ((X2.out.below hb3).alloc (.cells #[.int .i64 n0,.int .i64 n1,.int .i64 na,.int .i64 nc,.int .i64 nl,.int .i64 nb] 64));have R3:=Hz (Blk.new w3 64 [.int .i64 n0,.int .i64 n1,.int .i64 na,.int .i64 nc,.int .i64 nl,.int .i64 nb]);clear hb3 L3a)
   | (refine wpList_load_part rfl 116 (.tmp 25) rfl w1.heap.size 1 rfl [.pointer (some ⟨s0,0,none⟩),.pointer (some ⟨s1,0,none⟩)] X3.out rfl Tryz.underlying116 rfl size_slots ?_)
   | (go_at_call 72;refine (H2.out _ L3.out).mono ?_;rintro e w4 ⟨B4,m4,d4,rfl,hR,hb4⟩;rw [HIE];have L4a:=L3.out.trans (hb4.mono L3.out.size);have HW4:=Hz L4a.size;have L4:=Hz (L4a.alloc L4a.size (.cells #[.int .i64 i.p,.int .i64 i.v,.int .i64 i.h,.int .i64 i.m,.int .i64 i.f,.int .i64 i.s,.int .i64 i.r,.slice B4 m4 d4] 54));have B4':=Hz ((B3.out.below hb4).alloc (.cells #[.int .i64 i.p,.int .i64 i.v,.int .i64 i.h,.int .i64 i.m,.int .i64 i.f,.int .i64 i.s,.int .i64 i.r,.slice B4 m4 d4] 54));have X4:=Hz ((X3.out.below hb4).alloc (.cells #[.int .i64 i.p,.int .i64 i.v,.int .i64 i.h,.int .i64 i.m,.int .i64 i.f,.int .i64 i.s,.int .i64 i.r,.slice B4 m4 d4] 54));have R4:=Hz ((R3.out.below hb4).alloc (.cells #[.int .i64 i.p,.int .i64 i.v,.int .i64 i.h,.int .i64 i.m,.int .i64 i.f,.int .i64 i.s,.int .i64 i.r,.slice B4 m4 d4] 54));have I4:=Hz (Blk.new w4 54 [.int .i64 i.p,.int .i64 i.v,.int .i64 i.h,.int .i64 i.m,.int .i64 i.f,.int .i64 i.s,.int .i64 i.r,.slice B4 m4 d4]);clear hb4 hR L4a)
   | (refine wpList_load_blk rfl 118 (.tmp 6) rfl w1.heap.size rfl X4.out Tryz.underlying118 rfl size_part ?_)
   | (go_at_call 78;refine (H3.out _ L4.out).mono ?_;rintro e w5 ⟨rfl,hb5⟩;have L5:=Hz (L4.out.trans (hb5.mono L4.out.size));have B5:=Hz (B4'.out.below hb5);have X5:=Hz (X4.out.below hb5);have R5:=Hz (R4.out.below hb5);have I5:=Hz (I4.out.below hb5);have x0:=X5.out.cell (i:=0) rfl;clear hb5)
   | (refine wpList_load_blk rfl 64 (.tmp 8) rfl w3.heap.size rfl R5.out Tryz.underlying64 rfl size_rc6 ?_)
   | (go_at_call 75;refine (H4.out _ L5.out).mono ?_;rintro e w6 ⟨rfl,hk6⟩;have HR6:=Hz (hk6 _ _ B5.out (Nat.le_refl _)).2;have B6:=Hz (hk6 _ _ B5.out (Nat.le_refl _)).1;have I6:=Hz (hk6 _ _ I5.out HW4.out).1;clear hk6)
   | (refine wpList_store_blk rfl 54 (.tmp 4) (.tmp 48) rfl w.heap.size rfl zim rfl B6.out rfl size_img8 (one_igcs (Ig.no 0) none 0 0) ?_;intro w9 hB9 ho9))
  have q0:=hB9.out.cell (i:=0) rfl
  have q1:=hB9.out.cell (i:=1) rfl
  have q2:=hB9.out.cell (i:=2) rfl
  have q3:=hB9.out.cell (i:=3) rfl
  have q4:=hB9.out.cell (i:=4) rfl
  have q5:=hB9.out.cell (i:=5) rfl
  have q6:=hB9.out.cell (i:=6) rfl
  have q7:=hB9.out.cell (i:=7) rfl
  refine bodyPost_ret (v:=.tuple #[.agg #[.int .i64 0,.int .i64 0,.int .i64 0,.int .i64 0,.int .i64 0,.int .i64 0,.int .i64 0,.slice none 0 0],.int .i64 x]) (by simp [results,Tryz.results25,go_sem,q0,q1,q2,q3,q4,q5,q6,q7]) rfl ?_
  exact⟨none,0,0,rfl,HR6.out w9 ho9.out⟩
theorem boot_saved (zv:Value) (q:Int) (r0 r1 a c l b:Int) (ha:0≤a∧a≤1) (hl:0≤l∧l≤7) (n0 n1 na nc nl nb:Int) (hn:btR ⟨r0,r1,a,c,l,b⟩=⟨n0,n1,na,nc,nl,nb⟩) (i:Ig) (h:Ats w zv q (fun w'=>Is w' d la s0 s1)) (h1:Lat w la r0 r1 a c l b) (h2:Img w s0 s1 na i) (h3:Trs w d la s0 s1 true) (hi:i.e=0)
 (h4:∀w',Below w.heap.size w w'→Calls Tryz.prog 75 #[.pointer (some ⟨la,0,none⟩),.agg #[.int .i64 n0,.int .i64 n1,.int .i64 na,.int .i64 nc,.int .i64 nl,.int .i64 nb]] w' fun e w''=>e=.returned (.int .i64 0)∧∀b C,Blk w' b 54 C→w.heap.size≤b→Blk w'' b 54 C∧∀w3,Only b w'' w3→R w3) :
 Calls Tryz.prog 25 #[zv,.int .i64 q] w (Bo i 0 R):=by
 have L0:=Hz (show Below w.heap.size w (w.alloc (.cells zim.toArray 54)) from (Below.refl _ _).alloc (Nat.le_refl _) _)
 have B0:=Hz (Blk.new w 54 zim)
 have HU:=Hz (h _ L0.out)
 have H1:=Hz h1
 have H2:=Hz h2
 have H3:=Hz h3
 have HIE:=Hz hi
 have H4:=Hz h4
 have hbt:=fun w'=>booted_any r0 r1 a c l b ha hl w'
 rw [hn] at hbt
 dsimp only [rval] at hbt
 have HBT:=Hz hbt
 clear h h1 h2 h3 hbt hn h4 hi
 go_enter Tryz.func25,Tryz.ntmps25
 go_wp2_with (first
  | (go_at_call 76;refine HU.out.mono ?_;rintro e w1 ⟨rfl,hb1⟩;have L1a:=L0.out.trans (hb1.mono L0.out.size);have L1:=Hz (L1a.alloc L1a.size (.cells (pcs d la s0 s1).toArray 118));have B1:=Hz ((B0.out.below hb1).alloc (.cells (pcs d la s0 s1).toArray 118));have X1:=Hz (Blk.new w1 118 (pcs d la s0 s1));clear hb1 L1a)
  | (go_at_call 56;refine (H1.out _ L1.out).mono ?_;rintro e w2 ⟨rfl,hb2⟩;have L2:=Hz (L1.out.trans (hb2.mono L1.out.size));have B2:=Hz (B1.out.below hb2);have X2:=Hz (X1.out.below hb2);clear hb2)
  | (go_at_call 77;refine (HBT.out _).mono ?_;rintro e w3 ⟨rfl,hb3⟩;have L3a:=L2.out.trans (hb3.mono L2.out.size);have L3:=Hz (L3a.alloc L3a.size (.cells #[.int .i64 n0,.int .i64 n1,.int .i64 na,.int .i64 nc,.int .i64 nl,.int .i64 nb] 64));have B3:=Hz ((B2.out.below hb3).alloc (.cells #[.int .i64 n0,.int .i64 n1,.int .i64 na,.int .i64 nc,.int .i64 nl,.int .i64 nb] 64));have X3:=Hz ((X2.out.below hb3).alloc (.cells #[.int .i64 n0,.int .i64 n1,.int .i64 na,.int .i64 nc,.int .i64 nl,.int .i64 nb] 64));have R3:=Hz (Blk.new w3 64 [.int .i64 n0,.int .i64 n1,.int .i64 na,.int .i64 nc,.int .i64 nl,.int .i64 nb]);clear hb3 L3a)
  | (refine wpList_load_part rfl 116 (.tmp 25) rfl w1.heap.size 1 rfl [.pointer (some ⟨s0,0,none⟩),.pointer (some ⟨s1,0,none⟩)] X3.out rfl Tryz.underlying116 rfl size_slots ?_)
  | (go_at_call 72;refine (H2.out _ L3.out).mono ?_;rintro e w4 ⟨B4,m4,d4,rfl,hR,hb4⟩;rw [HIE.out];have L4a:=L3.out.trans (hb4.mono L3.out.size);have HW4:=Hz L4a.size;have L4:=Hz (L4a.alloc L4a.size (.cells #[.int .i64 i.p,.int .i64 i.v,.int .i64 i.h,.int .i64 i.m,.int .i64 i.f,.int .i64 i.s,.int .i64 i.r,.slice B4 m4 d4] 54));have B4':=Hz ((B3.out.below hb4).alloc (.cells #[.int .i64 i.p,.int .i64 i.v,.int .i64 i.h,.int .i64 i.m,.int .i64 i.f,.int .i64 i.s,.int .i64 i.r,.slice B4 m4 d4] 54));have X4:=Hz ((X3.out.below hb4).alloc (.cells #[.int .i64 i.p,.int .i64 i.v,.int .i64 i.h,.int .i64 i.m,.int .i64 i.f,.int .i64 i.s,.int .i64 i.r,.slice B4 m4 d4] 54));have R4:=Hz ((R3.out.below hb4).alloc (.cells #[.int .i64 i.p,.int .i64 i.v,.int .i64 i.h,.int .i64 i.m,.int .i64 i.f,.int .i64 i.s,.int .i64 i.r,.slice B4 m4 d4] 54));have I4:=Hz (Blk.new w4 54 [.int .i64 i.p,.int .i64 i.v,.int .i64 i.h,.int .i64 i.m,.int .i64 i.f,.int .i64 i.s,.int .i64 i.r,.slice B4 m4 d4]);clear hb4 hR L4a)
  | (refine wpList_load_blk rfl 118 (.tmp 6) rfl w1.heap.size rfl X4.out Tryz.underlying118 rfl size_part ?_)
  | (go_at_call 78;refine (H3.out _ L4.out).mono ?_;rintro e w5 ⟨rfl,hb5⟩;have L5:=Hz (L4.out.trans (hb5.mono L4.out.size));have B5:=Hz (B4'.out.below hb5);have X5:=Hz (X4.out.below hb5);have R5:=Hz (R4.out.below hb5);have I5:=Hz (I4.out.below hb5);have x0:=X5.out.cell (i:=0) rfl;clear hb5)
  | (refine wpList_load_blk rfl 64 (.tmp 8) rfl w3.heap.size rfl R5.out Tryz.underlying64 rfl size_rc6 ?_)
  | (go_at_call 75;refine (H4.out _ L5.out).mono ?_;rintro e w6 ⟨rfl,hk6⟩;have HR6:=Hz (hk6 _ _ B5.out (Nat.le_refl _)).2;have B6:=Hz (hk6 _ _ B5.out (Nat.le_refl _)).1;have I6:=Hz (hk6 _ _ I5.out HW4.out).1;clear hk6)
  | (refine wpList_load_blk rfl 54 (.tmp 9) rfl w4.heap.size rfl I6.out Tryz.underlying54 rfl size_img8 ?_)
  | (refine wpList_store_blk rfl 54 (.tmp 4) (.tmp 50) rfl w.heap.size rfl (igcs i B4 m4 d4) rfl B6.out rfl size_img8 (one_igcs i B4 m4 d4) ?_;intro w9 hB9 ho9))
 have q0:=hB9.out.cell (i:=0) rfl
 have q1:=hB9.out.cell (i:=1) rfl
 have q2:=hB9.out.cell (i:=2) rfl
 have q3:=hB9.out.cell (i:=3) rfl
 have q4:=hB9.out.cell (i:=4) rfl
 have q5:=hB9.out.cell (i:=5) rfl
 have q6:=hB9.out.cell (i:=6) rfl
 have q7:=hB9.out.cell (i:=7) rfl
 refine bodyPost_ret (v:=.tuple #[.agg #[.int .i64 i.p,.int .i64 i.v,.int .i64 i.h,.int .i64 i.m,.int .i64 i.f,.int .i64 i.s,.int .i64 i.r,.slice B4 m4 d4],.int .i64 0]) (by simp [results,Tryz.results25,go_sem,q0,q1,q2,q3,q4,q5,q6,q7]) rfl ?_
 exact⟨B4,m4,d4,rfl,HR6.out w9 ho9.out⟩
end
end StoN
end Go.Proofs.YtkepomnbhnnliaaGreatDoor
