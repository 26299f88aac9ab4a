/- Parts of the proof, each under the conditions that it names. -/
import Derived.Test.YtpidbddllnidhaaGreatDoorO19
set_option maxRecDepth 100000
set_option maxHeartbeats 12800000
namespace Go.Proofs.YtpidbddllnidhaaGreatDoor
open Go.RowKit
namespace StoN
open Kit Byt Mem
open ImgT (Ig iG)
open ImgU (Gi)
open TabA (Tri Tris Ta)
section
variable {w:World} {R:World→Prop} {d la s0 s1:Nat} {x:Int}
def Lat (w:World) (la:Nat) (r0 r1 r2 r3 r4 r5:Int):Prop:=∀w',Bw w w'→Calls Tryz.prog 32 #[.pointer (some ⟨la,0,none⟩)] w' fun e w''=>e=.returned (.agg #[.int .i64 r0,.int .i64 r1,.int .i64 r2,.int .i64 r3,.int .i64 r4,.int .i64 r5])∧Bw w' w''
def Img (w:World) (s0 s1:Nat) (k:Int) (i:Ig):Prop:=∀w',Bw w w'→Calls Tryz.prog 55 #[.agg #[.pointer (some ⟨s0,0,none⟩),.pointer (some ⟨s1,0,none⟩)],.int .i64 k] w' (Gi w' i)
theorem Q8:(Tryz.prog.info? 78).map (·.size)=some 2:=by kernel_rfl
theorem seal_no (zv:Value) (q ses:Int) (hx:x≠0) (h:Sd w zv q ses (fun w'=>No w' x)):Calls Tryz.prog 24 #[zv,.int .i64 q,.int .i64 ses] w (An x (Bw w)):=by
 have HU:=Hz (h w (Mb _ _))
 clear h
 go_enter Tryz.func24,Tryz.ntmps24
 go_wp2_with (go_at_call 53;refine HU.o.mono ?_;rintro e w1 ⟨rfl,hb1⟩;have L1:=Hz hb1;clear hb1)
 go_ret
 exact⟨rfl,L1.o.alloc L1.o.size _⟩
theorem seal_bytes (zv:Value) (q ses:Int) (r0 r1 a r3 r4 r5:Int) (ha:0≤a∧a≤1) (i:Ig) (hi:i.e≠0) (h:Sd w zv q ses (fun w'=>Is w' d la s0 s1)) (h1:Lat w la r0 r1 a r3 r4 r5) (h2:Img w s0 s1 (1-a) i) :
 Calls Tryz.prog 24 #[zv,.int .i64 q,.int .i64 ses] w (An i.e (Bw w)):=by
 have HU:=Hz (h w (Mb _ _))
 have H1:=Hz h1
 have H2:=Hz h2
 have HO:=Hz (fun w'=>V8 a ha w')
 obtain⟨y,hy⟩:∃y,y=i.e:=⟨_,rfl⟩
 obtain⟨k,hk⟩:∃k,k=1-a:=⟨_,rfl⟩
 rw [←hk] at H2 HO
 rw [←hy] at hi ⊢
 have HY:=Hz hy
 clear h h1 h2 hy hk
 go_enter Tryz.func24,Tryz.ntmps24
 go_wp2_with (first
  | (go_at_call 53;refine HU.o.mono ?_;rintro e w1 ⟨rfl,hb1⟩;have L1:=Hz (hb1.alloc hb1.size (.cells (pcs d la s0 s1).toArray 80));have X1:=Hz (Blk.new w1 80 (pcs d la s0 s1));clear hb1)
  | (go_at_call 32;refine (H1.o _ L1.o).mono ?_;rintro e w2 ⟨rfl,hb2⟩;have L2:=Hz ((L1.o.trans (hb2.mono L1.o.size)).alloc (L1.o.trans (hb2.mono L1.o.size)).size (.cells #[.int .i64 r0,.int .i64 r1,.int .i64 a,.int .i64 r3,.int .i64 r4,.int .i64 r5] 66));have X2:=Hz ((X1.o.below hb2).alloc (.cells #[.int .i64 r0,.int .i64 r1,.int .i64 a,.int .i64 r3,.int .i64 r4,.int .i64 r5] 66));clear hb2)
  | (go_at_call 54;refine (HO.o _).mono ?_;rintro e w3 ⟨rfl,rfl⟩)
  | (refine Qz rfl 78 (.tmp 32) rfl w1.heap.size 1 rfl [.pointer (some ⟨s0,0,none⟩),.pointer (some ⟨s1,0,none⟩)] X2.o rfl Tryz.underlying78 rfl Q8 ?_)
  | (go_at_call 55;refine (H2.o _ L2.o).mono ?_;rintro e w4 ⟨B,m,dd,rfl,hR,hb4⟩;rw [←HY.o];have L4:=Hz (L2.o.trans (hb4.mono L2.o.size));clear hb4 hR))
 go_ret
 exact⟨rfl,L4.o.alloc L4.o.size _⟩
theorem seal_check (z pb n pc:Nat) (t:Ta) (q ses:Int) (r0 r1 a r3 r4 r5:Int) (ha:0≤a∧a≤1) (i j:Ig) (hi:i.e=0) (hj:j.e=0) (hz:Blk w z 74 (t.cells++[.slice (some ⟨pb,0,none⟩) n pc])) (h:Sd w (.pointer (some ⟨z,0,none⟩)) q ses (fun w'=>Is w' d la s0 s1)) (h1:Lat w la r0 r1 a r3 r4 r5) (h2:Img w s0 s1 (1-a) i) (h3:Img w s0 s1 a j)
 (h4:∀w',Bw w w'→∀B m c,Rd w' B m c (u8n i.xs)→Calls Tryz.prog 28 #[t.val,.int .i64 q,.agg #[.int .i64 i.p,.int .i64 i.v,.int .i64 i.h,.int .i64 i.m,.int .i64 i.f,.int .i64 i.s,.int .i64 i.r,.slice B m c],.int .i64 j.v] w' fun e w''=>e=.returned (.int .i64 x)∧Bw w' w'') (hx:x≠0) :
 Calls Tryz.prog 24 #[.pointer (some ⟨z,0,none⟩),.int .i64 q,.int .i64 ses] w (An x (Bw w)):=by
 have HU:=Hz (h w (Mb _ _))
 have H1:=Hz h1
 have H2:=Hz h2
 have H3:=Hz h3
 obtain⟨fr,A1,n1,c1,TP,A2,n2,c2,TW,A3,n3,c3,TC,tr⟩:=t
 dsimp only [Ta.val] at h4
 have H4:=Hz h4
 have HZ:=Hz hz
 have HO:=Hz (fun w'=>V8 a ha w')
 have HIJ:=Hz (And.intro hi hj)
 obtain⟨k,hk⟩:∃k,k=1-a:=⟨_,rfl⟩
 rw [←hk] at H2 HO
 have HK:=Hz hk
 clear h h1 h2 h3 h4 hz hi hj hk
 go_enter Tryz.func24,Tryz.ntmps24
 go_wp2_with (first
  | (go_at_call 53;refine HU.o.mono ?_;rintro e w1 ⟨rfl,hb1⟩;have L1:=Hz (hb1.alloc hb1.size (.cells (pcs d la s0 s1).toArray 80));have X1:=Hz (Blk.new w1 80 (pcs d la s0 s1));clear hb1)
  | (go_at_call 32;refine (H1.o _ L1.o).mono ?_;rintro e w2 ⟨rfl,hb2⟩;have L2a:=L1.o.trans (hb2.mono L1.o.size);have L2:=Hz (L2a.alloc L2a.size (.cells #[.int .i64 r0,.int .i64 r1,.int .i64 a,.int .i64 r3,.int .i64 r4,.int .i64 r5] 66));have X2:=Hz ((X1.o.below hb2).alloc (.cells #[.int .i64 r0,.int .i64 r1,.int .i64 a,.int .i64 r3,.int .i64 r4,.int .i64 r5] 66));have R2:=Hz (Blk.new w2 66 [.int .i64 r0,.int .i64 r1,.int .i64 a,.int .i64 r3,.int .i64 r4,.int .i64 r5]);clear hb2 L2a)
  | (go_at_call 54;refine (HO.o _).mono ?_;rintro e w3 ⟨rfl,rfl⟩)
  | (have hq:=L4;clear hq;refine Qz rfl 78 (.tmp 42) rfl w1.heap.size 1 rfl [.pointer (some ⟨s0,0,none⟩),.pointer (some ⟨s1,0,none⟩)] X4.o rfl Tryz.underlying78 rfl Q8 ?_)
  | (refine Qz rfl 78 (.tmp 32) rfl w1.heap.size 1 rfl [.pointer (some ⟨s0,0,none⟩),.pointer (some ⟨s1,0,none⟩)] X2.o rfl Tryz.underlying78 rfl Q8 ?_)
  | (have hq:=L4;clear hq;go_at_call 55;refine (H3.o _ L4.o).mono ?_;rintro e w6 ⟨B6,m6,d6,rfl,hR,hb6⟩;rw [HIJ.o.2];have L6a:=L4.o.trans (hb6.mono L4.o.size);have L6:=Hz (L6a.alloc L6a.size (.cells #[.int .i64 j.p,.int .i64 j.v,.int .i64 j.h,.int .i64 j.m,.int .i64 j.f,.int .i64 j.s,.int .i64 j.r,.slice B6 m6 d6] 33));have X6:=Hz ((X4.o.below hb6).alloc (.cells #[.int .i64 j.p,.int .i64 j.v,.int .i64 j.h,.int .i64 j.m,.int .i64 j.f,.int .i64 j.s,.int .i64 j.r,.slice B6 m6 d6] 33));have R6:=Hz ((R4.o.below hb6).alloc (.cells #[.int .i64 j.p,.int .i64 j.v,.int .i64 j.h,.int .i64 j.m,.int .i64 j.f,.int .i64 j.s,.int .i64 j.r,.slice B6 m6 d6] 33));have I6:=Hz ((I4.o.below hb6).alloc (.cells #[.int .i64 j.p,.int .i64 j.v,.int .i64 j.h,.int .i64 j.m,.int .i64 j.f,.int .i64 j.s,.int .i64 j.r,.slice B6 m6 d6] 33));have HR6:=Hz ((HR4.o.below hb6).below ((Mb _ _).alloc (Mr _) (.cells #[.int .i64 j.p,.int .i64 j.v,.int .i64 j.h,.int .i64 j.m,.int .i64 j.f,.int .i64 j.s,.int .i64 j.r,.slice B6 m6 d6] 33)));have K6:=Hz (Blk.new w6 33 [.int .i64 j.p,.int .i64 j.v,.int .i64 j.h,.int .i64 j.m,.int .i64 j.f,.int .i64 j.s,.int .i64 j.r,.slice B6 m6 d6]);clear hb6 hR L6a)
  | (go_at_call 55;refine (H2.o _ L2.o).mono ?_;rintro e w4 ⟨B4,m4,d4,rfl,hR,hb4⟩;rw [HIJ.o.1];have L4a:=L2.o.trans (hb4.mono L2.o.size);have L4:=Hz (L4a.alloc L4a.size (.cells #[.int .i64 i.p,.int .i64 i.v,.int .i64 i.h,.int .i64 i.m,.int .i64 i.f,.int .i64 i.s,.int .i64 i.r,.slice B4 m4 d4] 33));have X4:=Hz ((X2.o.below hb4).alloc (.cells #[.int .i64 i.p,.int .i64 i.v,.int .i64 i.h,.int .i64 i.m,.int .i64 i.f,.int .i64 i.s,.int .i64 i.r,.slice B4 m4 d4] 33));have R4:=Hz ((R2.o.below hb4).alloc (.cells #[.int .i64 i.p,.int .i64 i.v,.int .i64 i.h,.int .i64 i.m,.int .i64 i.f,.int .i64 i.s,.int .i64 i.r,.slice B4 m4 d4] 33));have e2:=R4.o.cell (i:=2) rfl;have I4:=Hz (Blk.new w4 33 [.int .i64 i.p,.int .i64 i.v,.int .i64 i.h,.int .i64 i.m,.int .i64 i.f,.int .i64 i.s,.int .i64 i.r,.slice B4 m4 d4]);have HR4:=Hz (hR.below ((Mb _ _).alloc (Mr _) (.cells #[.int .i64 i.p,.int .i64 i.v,.int .i64 i.h,.int .i64 i.m,.int .i64 i.f,.int .i64 i.s,.int .i64 i.r,.slice B4 m4 d4] 33)));clear hb4 hR L4a))
 clear e2
 obtain⟨wB,hwB⟩:∃wB,wB=w6.alloc (.cells #[.int .i64 j.p,.int .i64 j.v,.int .i64 j.h,.int .i64 j.m,.int .i64 j.f,.int .i64 j.s,.int .i64 j.r,.slice B6 m6 d6] 33):=⟨_,rfl⟩
 obtain⟨xi,hxi⟩:∃xi,xi=w4.heap.size:=⟨_,rfl⟩
 obtain⟨xj,hxj⟩:∃xj,xj=w6.heap.size:=⟨_,rfl⟩
 obtain⟨xp,hxp⟩:∃xp,xp=w1.heap.size:=⟨_,rfl⟩
 obtain⟨xr,hxr⟩:∃xr,xr=w2.heap.size:=⟨_,rfl⟩
 rw [←hwB] at L6 X6 R6 I6 HR6 K6 ⊢
 rw [←hxi] at I6 ⊢
 rw [←hxj] at K6 ⊢
 rw [←hxp] at X6 ⊢
 rw [←hxr] at R6 ⊢
 clear hwB hxi hxj hxp hxr
 have Z6:=Hz (HZ.o.below L6.o)
 have z0:=Z6.o.cell (i:=0) rfl
 have z1:=Z6.o.cell (i:=1) rfl
 have z2:=Z6.o.cell (i:=2) rfl
 have z3:=Z6.o.cell (i:=3) rfl
 have z4:=Z6.o.cell (i:=4) rfl
 have i0:=I6.o.cell (i:=0) rfl
 have i1:=I6.o.cell (i:=1) rfl
 have i2:=I6.o.cell (i:=2) rfl
 have i3:=I6.o.cell (i:=3) rfl
 have i4:=I6.o.cell (i:=4) rfl
 have i5:=I6.o.cell (i:=5) rfl
 have i6:=I6.o.cell (i:=6) rfl
 have i7:=I6.o.cell (i:=7) rfl
 have j1:=K6.o.cell (i:=1) rfl
 have H4b:=Hz (H4.o wB.drew ((L6.o).drew) B4 m4 d4 HR6.o)
 have L6d:=Hz (L6.o.drew)
 go_still_tail 8,(by kernel_rfl)
 repeat still_step
 change wpList _ _ _ _ _ wB.drew
 go_wp2_with (go_at_call 28;refine H4b.o.mono ?_;rintro e w7 ⟨rfl,hb7⟩;have L7:=Hz (L6d.o.trans (hb7.mono L6d.o.size));clear hb7)
 go_ret
 exact⟨rfl,L7.o⟩
theorem seal_go (z pb n pc:Nat) (t:Ta) (q ses:Int) (r0 r1 a r3 r4 r5:Int) (ha:0≤a∧a≤1) (i j:Ig) (hi:i.e=0) (hj:j.e=0) (hz:Blk w z 74 (t.cells++[.slice (some ⟨pb,0,none⟩) n pc])) (h:Sd w (.pointer (some ⟨z,0,none⟩)) q ses (fun w'=>Is w' d la s0 s1)) (h1:Lat w la r0 r1 a r3 r4 r5) (h2:Img w s0 s1 (1-a) i) (h3:Img w s0 s1 a j)
 (h4:∀w',Bw w w'→∀B m c,Rd w' B m c (u8n i.xs)→Calls Tryz.prog 28 #[t.val,.int .i64 q,.agg #[.int .i64 i.p,.int .i64 i.v,.int .i64 i.h,.int .i64 i.m,.int .i64 i.f,.int .i64 i.s,.int .i64 i.r,.slice B m c],.int .i64 j.v] w' fun e w''=>e=.returned (.int .i64 0)∧Bw w' w'')
 (h5:∀w',Bw w w'→Calls Tryz.prog 56 #[pval d la s0 s1,.int .i64 (1-a)] w' fun e w''=>e=.returned (.int .i64 0)∧Bw w' w'')
 (h6:∀w',Bw w w'→Calls Tryz.prog 57 #[.pointer (some ⟨la,0,none⟩),.agg #[.int .i64 0,.int .i64 0,.int .i64 (1-a),.int .i64 r3,.int .i64 t.tr,.int .i64 0]] w' (An x R)) :
 Calls Tryz.prog 24 #[.pointer (some ⟨z,0,none⟩),.int .i64 q,.int .i64 ses] w (An x R):=by
 have HU:=Hz (h w (Mb _ _))
 have H1:=Hz h1
 have H2:=Hz h2
 have H3:=Hz h3
 obtain⟨fr,A1,n1,c1,TP,A2,n2,c2,TW,A3,n3,c3,TC,tr⟩:=t
 dsimp only [Ta.val] at h4
 have H4:=Hz h4
 have H5:=Hz h5
 have H6:=Hz h6
 have HZ:=Hz hz
 have HO:=Hz (fun w'=>V8 a ha w')
 have HIJ:=Hz (And.intro hi hj)
 obtain⟨k,hk⟩:∃k,k=1-a:=⟨_,rfl⟩
 rw [←hk] at H2 HO H5 H6
 have HK:=Hz hk
 clear h h1 h2 h3 h4 hz hi hj hk h5 h6
 go_enter Tryz.func24,Tryz.ntmps24
 go_wp2_with (first
  | (go_at_call 53;refine HU.o.mono ?_;rintro e w1 ⟨rfl,hb1⟩;have L1:=Hz (hb1.alloc hb1.size (.cells (pcs d la s0 s1).toArray 80));have X1:=Hz (Blk.new w1 80 (pcs d la s0 s1));clear hb1)
  | (go_at_call 32;refine (H1.o _ L1.o).mono ?_;rintro e w2 ⟨rfl,hb2⟩;have L2a:=L1.o.trans (hb2.mono L1.o.size);have L2:=Hz (L2a.alloc L2a.size (.cells #[.int .i64 r0,.int .i64 r1,.int .i64 a,.int .i64 r3,.int .i64 r4,.int .i64 r5] 66));have X2:=Hz ((X1.o.below hb2).alloc (.cells #[.int .i64 r0,.int .i64 r1,.int .i64 a,.int .i64 r3,.int .i64 r4,.int .i64 r5] 66));have R2:=Hz (Blk.new w2 66 [.int .i64 r0,.int .i64 r1,.int .i64 a,.int .i64 r3,.int .i64 r4,.int .i64 r5]);clear hb2 L2a)
  | (go_at_call 54;refine (HO.o _).mono ?_;rintro e w3 ⟨rfl,rfl⟩)
  | (have hq:=L4;clear hq;refine Qz rfl 78 (.tmp 42) rfl w1.heap.size 1 rfl [.pointer (some ⟨s0,0,none⟩),.pointer (some ⟨s1,0,none⟩)] X4.o rfl Tryz.underlying78 rfl Q8 ?_)
  | (refine Qz rfl 78 (.tmp 32) rfl w1.heap.size 1 rfl [.pointer (some ⟨s0,0,none⟩),.pointer (some ⟨s1,0,none⟩)] X2.o rfl Tryz.underlying78 rfl Q8 ?_)
  | (have hq:=L4;clear hq;go_at_call 55;refine (H3.o _ L4.o).mono ?_;rintro e w6 ⟨B6,m6,d6,rfl,hR,hb6⟩;rw [HIJ.o.2];have L6a:=L4.o.trans (hb6.mono L4.o.size);have L6:=Hz (L6a.alloc L6a.size (.cells #[.int .i64 j.p,.int .i64 j.v,.int .i64 j.h,.int .i64 j.m,.int .i64 j.f,.int .i64 j.s,.int .i64 j.r,.slice B6 m6 d6] 33));have X6:=Hz ((X4.o.below hb6).alloc (.cells #[.int .i64 j.p,.int .i64 j.v,.int .i64 j.h,.int .i64 j.m,.int .i64 j.f,.int .i64 j.s,.int .i64 j.r,.slice B6 m6 d6] 33));have R6:=Hz ((R4.o.below hb6).alloc (.cells #[.int .i64 j.p,.int .i64 j.v,.int .i64 j.h,.int .i64 j.m,.int .i64 j.f,.int .i64 j.s,.int .i64 j.r,.slice B6 m6 d6] 33));have I6:=Hz ((I4.o.below hb6).alloc (.cells #[.int .i64 j.p,.int .i64 j.v,.int .i64 j.h,.int .i64 j.m,.int .i64 j.f,.int .i64 j.s,.int .i64 j.r,.slice B6 m6 d6] 33));have HR6:=Hz ((HR4.o.below hb6).below ((Mb _ _).alloc (Mr _) (.cells #[.int .i64 j.p,.int .i64 j.v,.int .i64 j.h,.int .i64 j.m,.int .i64 j.f,.int .i64 j.s,.int .i64 j.r,.slice B6 m6 d6] 33)));have K6:=Hz (Blk.new w6 33 [.int .i64 j.p,.int .i64 j.v,.int .i64 j.h,.int .i64 j.m,.int .i64 j.f,.int .i64 j.s,.int .i64 j.r,.slice B6 m6 d6]);clear hb6 hR L6a)
  | (go_at_call 55;refine (H2.o _ L2.o).mono ?_;rintro e w4 ⟨B4,m4,d4,rfl,hR,hb4⟩;rw [HIJ.o.1];have L4a:=L2.o.trans (hb4.mono L2.o.size);have L4:=Hz (L4a.alloc L4a.size (.cells #[.int .i64 i.p,.int .i64 i.v,.int .i64 i.h,.int .i64 i.m,.int .i64 i.f,.int .i64 i.s,.int .i64 i.r,.slice B4 m4 d4] 33));have X4:=Hz ((X2.o.below hb4).alloc (.cells #[.int .i64 i.p,.int .i64 i.v,.int .i64 i.h,.int .i64 i.m,.int .i64 i.f,.int .i64 i.s,.int .i64 i.r,.slice B4 m4 d4] 33));have R4:=Hz ((R2.o.below hb4).alloc (.cells #[.int .i64 i.p,.int .i64 i.v,.int .i64 i.h,.int .i64 i.m,.int .i64 i.f,.int .i64 i.s,.int .i64 i.r,.slice B4 m4 d4] 33));have e2:=R4.o.cell (i:=2) rfl;have I4:=Hz (Blk.new w4 33 [.int .i64 i.p,.int .i64 i.v,.int .i64 i.h,.int .i64 i.m,.int .i64 i.f,.int .i64 i.s,.int .i64 i.r,.slice B4 m4 d4]);have HR4:=Hz (hR.below ((Mb _ _).alloc (Mr _) (.cells #[.int .i64 i.p,.int .i64 i.v,.int .i64 i.h,.int .i64 i.m,.int .i64 i.f,.int .i64 i.s,.int .i64 i.r,.slice B4 m4 d4] 33)));clear hb4 hR L4a))
 clear e2
 obtain⟨wB,hwB⟩:∃wB,wB=w6.alloc (.cells #[.int .i64 j.p,.int .i64 j.v,.int .i64 j.h,.int .i64 j.m,.int .i64 j.f,.int .i64 j.s,.int .i64 j.r,.slice B6 m6 d6] 33):=⟨_,rfl⟩
 obtain⟨xi,hxi⟩:∃xi,xi=w4.heap.size:=⟨_,rfl⟩
 obtain⟨xj,hxj⟩:∃xj,xj=w6.heap.size:=⟨_,rfl⟩
 obtain⟨xp,hxp⟩:∃xp,xp=w1.heap.size:=⟨_,rfl⟩
 obtain⟨xr,hxr⟩:∃xr,xr=w2.heap.size:=⟨_,rfl⟩
 rw [←hwB] at L6 X6 R6 I6 HR6 K6 ⊢
 rw [←hxi] at I6 ⊢
 rw [←hxj] at K6 ⊢
 rw [←hxp] at X6 ⊢
 rw [←hxr] at R6 ⊢
 clear hwB hxi hxj hxp hxr
 have Z6:=Hz (HZ.o.below L6.o)
 have z0:=Z6.o.cell (i:=0) rfl
 have z1:=Z6.o.cell (i:=1) rfl
 have z2:=Z6.o.cell (i:=2) rfl
 have z3:=Z6.o.cell (i:=3) rfl
 have z4:=Z6.o.cell (i:=4) rfl
 have i0:=I6.o.cell (i:=0) rfl
 have i1:=I6.o.cell (i:=1) rfl
 have i2:=I6.o.cell (i:=2) rfl
 have i3:=I6.o.cell (i:=3) rfl
 have i4:=I6.o.cell (i:=4) rfl
 have i5:=I6.o.cell (i:=5) rfl
 have i6:=I6.o.cell (i:=6) rfl
 have i7:=I6.o.cell (i:=7) rfl
 have j1:=K6.o.cell (i:=1) rfl
 have H4b:=Hz (H4.o wB.drew ((L6.o).drew) B4 m4 d4 HR6.o)
 have L6d:=Hz (L6.o.drew)
 go_still_tail 8,(by kernel_rfl)
 repeat still_step
 change wpList _ _ _ _ _ wB.drew
 go_wp2_with (first
  | (go_at_call 28;refine H4b.o.mono ?_;rintro e w7 ⟨rfl,hb7⟩;have L7:=Hz (L6d.o.trans (hb7.mono L6d.o.size));have X7:=Hz (X6.o.below (((Mb wB.heap.size wB).drew).trans hb7));have R7:=Hz (R6.o.below (((Mb wB.heap.size wB).drew).trans hb7));clear hb7)
  | (refine Qj rfl 80 (.tmp 7) rfl xp rfl X7.o Tryz.underlying80 rfl Qy ?_)
  | (go_at_call 56;refine (H5.o _ L7.o).mono ?_;rintro e w8 ⟨rfl,hb8⟩;have L8:=Hz (L7.o.trans (hb8.mono L7.o.size));have X8:=Hz (X7.o.below hb8);have R8:=Hz (R7.o.below hb8);clear hb8))
 clear z0 z1 z2 z3 z4 i0 i1 i2 i3 i4 i5 i6 i7 j1
 have Z8:=Hz (HZ.o.below L8.o)
 have z4:=Z8.o.cell (i:=4) rfl
 have x0:=X8.o.cell (i:=0) rfl
 have y3:=R8.o.cell (i:=3) rfl
 have L8d:=Hz L8.o.drew
 go_still_tail 11,(by kernel_rfl)
 repeat still_step
 change wpList _ _ _ _ _ w8.drew
 go_wp2_with (go_at_call 57;refine (H6.o _ L8d.o).mono ?_;rintro e w9 ⟨rfl,hr9⟩;have HR9:=Hz hr9;clear hr9)
 go_ret
 exact⟨rfl,HR9.o⟩
end
end StoN
namespace StoN
open Mem RecM
open ImgT (Ig iG)
open ImgU (Gi)
open RecA (rval rcells rok sval scells sok)
def btR (r:Rc):Rc:=if r.a=r.c then r else if r.l=0 then ⟨0,0,r.c,r.c,0,1+r.a⟩ else { r with l:=r.l-1 }
theorem Y0 (r0 r1 a c l b:Int) (ha:0≤a∧a≤1) (hl:0≤l∧l≤7) (w:World) :
 Calls Tryz.prog 59 #[.agg #[.int .i64 r0,.int .i64 r1,.int .i64 a,.int .i64 c,.int .i64 l,.int .i64 b]] w fun e w'=>e=.returned (rval (btR ⟨r0,r1,a,c,l,b⟩))∧Bw w w':=by
 have L0:=Hz (show Bw w ((w.alloc (.cells #[.int .i64 r0,.int .i64 r1,.int .i64 a,.int .i64 c,.int .i64 l,.int .i64 b] 66)).alloc (.cells #[.int .i64 0,.int .i64 0,.int .i64 0,.int .i64 0,.int .i64 0,.int .i64 0] 66)) from ((Mb _ _).alloc (Mr _) _).alloc (by rw [Ms];omega) _)
 by_cases hac:a=c
 ·have HR:=Hz (show btR ⟨r0,r1,a,c,l,b⟩=⟨r0,r1,a,c,l,b⟩ from if_pos hac)
  subst hac
  go_enter Tryz.func59,Tryz.ntmps59
  go_wp2
  rw [HR.o]
  refine bodyPost_ret (v:=.agg #[.int .i64 r0,.int .i64 r1,.int .i64 a,.int .i64 a,.int .i64 l,.int .i64 b]) (by simp [results,Tryz.results59,go_sem]) rfl ?_
  exact⟨rfl,((Mb _ _).alloc (Mr _) _).alloc (by rw [Ms];omega) _⟩
 ·have hne:(a==c)=false:=by simpa using hac
  by_cases h0:l=0
  ·subst h0
   have HR:=Hz (show btR ⟨r0,r1,a,c,0,b⟩=⟨0,0,c,c,0,1+a⟩ from by unfold btR;rw [if_neg hac,if_pos rfl])
   rcases (show a=0∨a=1 from by omega) with rfl|rfl
   ·go_enter Tryz.func59,Tryz.ntmps59
    go_wp2
    go_region
    go_wp2
    rw [HR.o]
    refine bodyPost_ret (v:=.agg #[.int .i64 0,.int .i64 0,.int .i64 c,.int .i64 c,.int .i64 0,.int .i64 1]) (by simp [results,Tryz.results59,go_sem]) rfl ?_
    exact⟨rfl,(((Mb _ _).alloc (Mr _) _).alloc (by rw [Ms];omega) _).drew⟩
   ·go_enter Tryz.func59,Tryz.ntmps59
    go_wp2
    go_region
    go_wp2
    rw [HR.o]
    refine bodyPost_ret (v:=.agg #[.int .i64 0,.int .i64 0,.int .i64 c,.int .i64 c,.int .i64 0,.int .i64 2]) (by simp [results,Tryz.results59,go_sem]) rfl ?_
    exact⟨rfl,(((Mb _ _).alloc (Mr _) _).alloc (by rw [Ms];omega) _).drew⟩
  ·have HR:=Hz (show btR ⟨r0,r1,a,c,l,b⟩=⟨r0,r1,a,c,l-1,b⟩ from by unfold btR;rw [if_neg hac,if_neg h0])
   have hne0:(l==0)=false:=by simpa using h0
   have hw:IntKind.i64.wrap (l-1)=l-1:=by rw [Mi_];omega
   go_enter Tryz.func59,Tryz.ntmps59
   go_wp2
   rw [HR.o]
   refine bodyPost_ret (v:=.agg #[.int .i64 r0,.int .i64 r1,.int .i64 a,.int .i64 c,.int .i64 (l-1),.int .i64 b]) (by simp [results,Tryz.results59,go_sem]) rfl ?_
   exact⟨rfl,((Mb _ _).alloc (Mr _) _).alloc (by rw [Ms];omega) _⟩
def Bo (i:Ig) (x:Int) (R:World→Prop) (e:Ending) (w':World):Prop:=∃B m d,e=.returned (.tuple #[.agg #[.int .i64 i.p,.int .i64 i.v,.int .i64 i.h,.int .i64 i.m,.int .i64 i.f,.int .i64 i.s,.int .i64 i.r,.slice B m d],.int .i64 x])∧R w'
section
variable {w:World} {R:World→Prop} {d la s0 s1:Nat} {x:Int}
def Ats (w:World) (zv:Value) (q:Int) (Q:World→Ending→World→Prop):Prop:=∀w',Bw w w'→Calls Tryz.prog 58 #[zv,.int .i64 q] w' (Q w')
def Trs (w:World) (d la s0 s1:Nat) (b:Bool):Prop:=∀w',Bw w w'→Calls Tryz.prog 60 #[pval d la s0 s1] w' fun e w''=>e=.returned (.bool b)∧Bw w' w''
theorem Jj:(Tryz.prog.info? 66).map (·.size)=some 6:=by kernel_rfl
theorem boot_no (zv:Value) (q:Int) (hx:x≠0) (h:Ats w zv q (fun w'=>No w' x)):Calls Tryz.prog 25 #[zv,.int .i64 q] w (Bo (Ig.no x) x (Bw w)):=by
 have L0:=Hz (show Bw w (w.alloc (.cells zim.toArray 33)) from (Mb _ _).alloc (Mr _) _)
 have B0:=Hz (Blk.new w 33 zim)
 have HU:=Hz (h _ L0.o)
 clear h
 go_enter Tryz.func25,Tryz.ntmps25
 go_wp2_with (first
  | (go_at_call 58;refine HU.o.mono ?_;rintro e w1 ⟨rfl,hb1⟩;have L1:=Hz (L0.o.trans (hb1.mono L0.o.size));have B1:=Hz ((B0.o.below hb1).alloc (.cells pzs.toArray 80));clear hb1)
  | (refine Qq rfl 33 (.tmp 4) (.tmp 18) rfl w.heap.size rfl zim rfl B1.o rfl J8 (one_igcs (Ig.no 0) none 0 0) ?_;intro w9 hB9 ho9))
 have q0:=hB9.o.cell (i:=0) rfl
 have q1:=hB9.o.cell (i:=1) rfl
 have q2:=hB9.o.cell (i:=2) rfl
 have q3:=hB9.o.cell (i:=3) rfl
 have q4:=hB9.o.cell (i:=4) rfl
 have q5:=hB9.o.cell (i:=5) rfl
 have q6:=hB9.o.cell (i:=6) rfl
 have q7:=hB9.o.cell (i:=7) rfl
 refine bodyPost_ret (v:=.tuple #[.agg #[.int .i64 0,.int .i64 0,.int .i64 0,.int .i64 0,.int .i64 0,.int .i64 0,.int .i64 0,.slice none 0 0],.int .i64 x]) (by simp [results,Tryz.results25,go_sem,q0,q1,q2,q3,q4,q5,q6,q7]) rfl ?_
 exact⟨none,0,0,rfl,ho9.o.below (L1.o.alloc L1.o.size _) (Mr _) (by have:=L1.o.size;rw [Ms];omega)⟩
theorem boot_img (zv:Value) (q:Int) (r0 r1 a c l b:Int) (ha:0≤a∧a≤1) (hl:0≤l∧l≤7) (n0 n1 na nc nl nb:Int) (hn:btR ⟨r0,r1,a,c,l,b⟩=⟨n0,n1,na,nc,nl,nb⟩) (i:Ig) (h:Ats w zv q (fun w'=>Is w' d la s0 s1)) (h1:Lat w la r0 r1 a c l b) (h2:Img w s0 s1 na i) (h3:Trs w d la s0 s1 false) (hi:i.e=0) :
 Calls Tryz.prog 25 #[zv,.int .i64 q] w (Bo i 0 (Bw w)):=by
 have L0:=Hz (show Bw w (w.alloc (.cells zim.toArray 33)) from (Mb _ _).alloc (Mr _) _)
 have B0:=Hz (Blk.new w 33 zim)
 have HU:=Hz (h _ L0.o)
 have H1:=Hz h1
 have H2:=Hz h2
 have H3:=Hz h3
 have HIE:=Hz hi
 have hbt:=fun w'=>Y0 r0 r1 a c l b ha hl w'
 rw [hn] at hbt
 dsimp only [rval] at hbt
 have HBT:=Hz hbt
 clear h h1 h2 h3 hbt hn hi
 go_enter Tryz.func25,Tryz.ntmps25
 go_wp2_with (first
  | (go_at_call 58;refine HU.o.mono ?_;rintro e w1 ⟨rfl,hb1⟩;have L1a:=L0.o.trans (hb1.mono L0.o.size);have L1:=Hz (L1a.alloc L1a.size (.cells (pcs d la s0 s1).toArray 80));have B1:=Hz ((B0.o.below hb1).alloc (.cells (pcs d la s0 s1).toArray 80));have X1:=Hz (Blk.new w1 80 (pcs d la s0 s1));clear hb1 L1a)
  | (go_at_call 32;refine (H1.o _ L1.o).mono ?_;rintro e w2 ⟨rfl,hb2⟩;have L2:=Hz (L1.o.trans (hb2.mono L1.o.size));have B2:=Hz (B1.o.below hb2);have X2:=Hz (X1.o.below hb2);clear hb2)
  | (go_at_call 59;refine (HBT.o _).mono ?_;rintro e w3 ⟨rfl,hb3⟩;have L3a:=L2.o.trans (hb3.mono L2.o.size);have L3:=Hz (L3a.alloc L3a.size (.cells #[.int .i64 n0,.int .i64 n1,.int .i64 na,.int .i64 nc,.int .i64 nl,.int .i64 nb] 66));have B3:=Hz ((B2.o.below hb3).alloc (.cells #[.int .i64 n0,.int .i64 n1,.int .i64 na,.int .i64 nc,.int .i64 nl,.int .i64 nb] 66));have X3:=Hz ((X2.o.below hb3).alloc (.cells #[.int .i64 n0,.int .i64 n1,.int .i64 na,.int .i64 nc,.int .i64 nl,.int .i64 nb] 66));have R3:=Hz (Blk.new w3 66 [.int .i64 n0,.int .i64 n1,.int .i64 na,.int .i64 nc,.int .i64 nl,.int .i64 nb]);clear hb3 L3a)
  | (refine Qz rfl 78 (.tmp 25) rfl w1.heap.size 1 rfl [.pointer (some ⟨s0,0,none⟩),.pointer (some ⟨s1,0,none⟩)] X3.o rfl Tryz.underlying78 rfl Q8 ?_)
  | (go_at_call 55;refine (H2.o _ L3.o).mono ?_;rintro e w4 ⟨B4,m4,d4,rfl,hR,hb4⟩;rw [HIE.o];have L4a:=L3.o.trans (hb4.mono L3.o.size);have L4:=Hz (L4a.alloc L4a.size (.cells #[.int .i64 i.p,.int .i64 i.v,.int .i64 i.h,.int .i64 i.m,.int .i64 i.f,.int .i64 i.s,.int .i64 i.r,.slice B4 m4 d4] 33));have B4':=Hz ((B3.o.below hb4).alloc (.cells #[.int .i64 i.p,.int .i64 i.v,.int .i64 i.h,.int .i64 i.m,.int .i64 i.f,.int .i64 i.s,.int .i64 i.r,.slice B4 m4 d4] 33));have X4:=Hz ((X3.o.below hb4).alloc (.cells #[.int .i64 i.p,.int .i64 i.v,.int .i64 i.h,.int .i64 i.m,.int .i64 i.f,.int .i64 i.s,.int .i64 i.r,.slice B4 m4 d4] 33));have R4:=Hz ((R3.o.below hb4).alloc (.cells #[.int .i64 i.p,.int .i64 i.v,.int .i64 i.h,.int .i64 i.m,.int .i64 i.f,.int .i64 i.s,.int .i64 i.r,.slice B4 m4 d4] 33));have I4:=Hz (Blk.new w4 33 [.int .i64 i.p,.int .i64 i.v,.int .i64 i.h,.int .i64 i.m,.int .i64 i.f,.int .i64 i.s,.int .i64 i.r,.slice B4 m4 d4]);clear hb4 hR L4a)
  | (refine Qj rfl 80 (.tmp 6) rfl w1.heap.size rfl X4.o Tryz.underlying80 rfl Qy ?_)
  | (go_at_call 60;refine (H3.o _ L4.o).mono ?_;rintro e w5 ⟨rfl,hb5⟩;have L5:=Hz (L4.o.trans (hb5.mono L4.o.size));have B5:=Hz (B4'.o.below hb5);have X5:=Hz (X4.o.below hb5);have R5:=Hz (R4.o.below hb5);have I5:=Hz (I4.o.below hb5);have x0:=X5.o.cell (i:=0) rfl;clear hb5)
  | (refine Qj rfl 33 (.tmp 9) rfl w4.heap.size rfl I5.o Tryz.underlying33 rfl J8 ?_)
  | (refine Qq rfl 33 (.tmp 4) (.tmp 50) rfl w.heap.size rfl (igcs i B4 m4 d4) rfl B5.o rfl J8 (one_igcs i B4 m4 d4) ?_;intro w9 hB9 ho9))
 have q0:=hB9.o.cell (i:=0) rfl
 have q1:=hB9.o.cell (i:=1) rfl
 have q2:=hB9.o.cell (i:=2) rfl
 have q3:=hB9.o.cell (i:=3) rfl
 have q4:=hB9.o.cell (i:=4) rfl
 have q5:=hB9.o.cell (i:=5) rfl
 have q6:=hB9.o.cell (i:=6) rfl
 have q7:=hB9.o.cell (i:=7) rfl
 refine bodyPost_ret (v:=.tuple #[.agg #[.int .i64 i.p,.int .i64 i.v,.int .i64 i.h,.int .i64 i.m,.int .i64 i.f,.int .i64 i.s,.int .i64 i.r,.slice B4 m4 d4],.int .i64 0]) (by simp [results,Tryz.results25,go_sem,q0,q1,q2,q3,q4,q5,q6,q7]) rfl ?_
 exact⟨B4,m4,d4,rfl,ho9.o.below L5.o (Mr _) L5.o.size⟩
theorem Nt (zv:Value) (q:Int) (r0 r1 a c l b:Int) (ha:0≤a∧a≤1) (hl:0≤l∧l≤7) (n0 n1 na nc nl nb:Int) (hn:btR ⟨r0,r1,a,c,l,b⟩=⟨n0,n1,na,nc,nl,nb⟩) (i:Ig) (h:Ats w zv q (fun w'=>Is w' d la s0 s1)) (h1:Lat w la r0 r1 a c l b) (h2:Img w s0 s1 na i) (h3:Trs w d la s0 s1 true) (hi:i.e=0∨i.e=8) (hx:x≠0)
 (h4:∀w',Bw w w'→Calls Tryz.prog 57 #[.pointer (some ⟨la,0,none⟩),.agg #[.int .i64 n0,.int .i64 n1,.int .i64 na,.int .i64 nc,.int .i64 nl,.int .i64 nb]] w' fun e w''=>e=.returned (.int .i64 x)∧∀b C,Blk w' b 33 C→w.heap.size≤b→Blk w'' b 33 C∧∀w3,Only b w'' w3→R w3) :
 Calls Tryz.prog 25 #[zv,.int .i64 q] w (Bo (Ig.no x) x R):=by
 have L0:=Hz (show Bw w (w.alloc (.cells zim.toArray 33)) from (Mb _ _).alloc (Mr _) _)
 have B0:=Hz (Blk.new w 33 zim)
 have HU:=Hz (h _ L0.o)
 have H1:=Hz h1
 have H2:=Hz h2
 have H3:=Hz h3
 have H4:=Hz h4
 have hbt:=fun w'=>Y0 r0 r1 a c l b ha hl w'
 rw [hn] at hbt
 dsimp only [rval] at hbt
 have HBT:=Hz hbt
 clear h h1 h2 h3 hbt hn h4
 rcases hi with HIE|HIE
 ·go_enter Tryz.func25,Tryz.ntmps25
  go_wp2_with (first
   | (go_at_call 58;refine HU.o.mono ?_;rintro e w1 ⟨rfl,hb1⟩;have L1a:=L0.o.trans (hb1.mono L0.o.size);have L1:=Hz (L1a.alloc L1a.size (.cells (pcs d la s0 s1).toArray 80));have B1:=Hz ((B0.o.below hb1).alloc (.cells (pcs d la s0 s1).toArray 80));have X1:=Hz (Blk.new w1 80 (pcs d la s0 s1));clear hb1 L1a)
   | (go_at_call 32;refine (H1.o _ L1.o).mono ?_;rintro e w2 ⟨rfl,hb2⟩;have L2:=Hz (L1.o.trans (hb2.mono L1.o.size));have B2:=Hz (B1.o.below hb2);have X2:=Hz (X1.o.below hb2);clear hb2)
   | (go_at_call 59;refine (HBT.o _).mono ?_;rintro e w3 ⟨rfl,hb3⟩;have L3a:=L2.o.trans (hb3.mono L2.o.size);have L3:=Hz (L3a.alloc L3a.size (.cells #[.int .i64 n0,.int .i64 n1,.int .i64 na,.int .i64 nc,.int .i64 nl,.int .i64 nb] 66));have B3:=Hz ((B2.o.below hb3).alloc (.cells #[.int .i64 n0,.int .i64 n1,.int .i64 na,.int .i64 nc,.int .i64 nl,.int .i64 nb] 66));have X3:=Hz ((X2.o.below hb3).alloc (.cells #[.int .i64 n0,.int .i64 n1,.int .i64 na,.int .i64 nc,.int .i64 nl,.int .i64 nb] 66));have R3:=Hz (Blk.new w3 66 [.int .i64 n0,.int .i64 n1,.int .i64 na,.int .i64 nc,.int .i64 nl,.int .i64 nb]);clear hb3 L3a)
   | (refine Qz rfl 78 (.tmp 25) rfl w1.heap.size 1 rfl [.pointer (some ⟨s0,0,none⟩),.pointer (some ⟨s1,0,none⟩)] X3.o rfl Tryz.underlying78 rfl Q8 ?_)
   | (go_at_call 55;refine (H2.o _ L3.o).mono ?_;rintro e w4 ⟨B4,m4,d4,rfl,hR,hb4⟩;rw [HIE];have L4a:=L3.o.trans (hb4.mono L3.o.size);have HW4:=Hz L4a.size;have L4:=Hz (L4a.alloc L4a.size (.cells #[.int .i64 i.p,.int .i64 i.v,.int .i64 i.h,.int .i64 i.m,.int .i64 i.f,.int .i64 i.s,.int .i64 i.r,.slice B4 m4 d4] 33));have B4':=Hz ((B3.o.below hb4).alloc (.cells #[.int .i64 i.p,.int .i64 i.v,.int .i64 i.h,.int .i64 i.m,.int .i64 i.f,.int .i64 i.s,.int .i64 i.r,.slice B4 m4 d4] 33));have X4:=Hz ((X3.o.below hb4).alloc (.cells #[.int .i64 i.p,.int .i64 i.v,.int .i64 i.h,.int .i64 i.m,.int .i64 i.f,.int .i64 i.s,.int .i64 i.r,.slice B4 m4 d4] 33));have R4:=Hz ((R3.o.below hb4).alloc (.cells #[.int .i64 i.p,.int .i64 i.v,.int .i64 i.h,.int .i64 i.m,.int .i64 i.f,.int .i64 i.s,.int .i64 i.r,.slice B4 m4 d4] 33));have I4:=Hz (Blk.new w4 33 [.int .i64 i.p,.int .i64 i.v,.int .i64 i.h,.int .i64 i.m,.int .i64 i.f,.int .i64 i.s,.int .i64 i.r,.slice B4 m4 d4]);clear hb4 hR L4a)
   | (refine Qj rfl 80 (.tmp 6) rfl w1.heap.size rfl X4.o Tryz.underlying80 rfl Qy ?_)
   | (go_at_call 60;refine (H3.o _ L4.o).mono ?_;rintro e w5 ⟨rfl,hb5⟩;have L5:=Hz (L4.o.trans (hb5.mono L4.o.size));have B5:=Hz (B4'.o.below hb5);have X5:=Hz (X4.o.below hb5);have R5:=Hz (R4.o.below hb5);have I5:=Hz (I4.o.below hb5);have x0:=X5.o.cell (i:=0) rfl;clear hb5)
   | (refine Qj rfl 66 (.tmp 8) rfl w3.heap.size rfl R5.o Tryz.underlying66 rfl Jj ?_)
   | (go_at_call 57;refine (H4.o _ L5.o).mono ?_;rintro e w6 ⟨rfl,hk6⟩;have HR6:=Hz (hk6 _ _ B5.o (Mr _)).2;have B6:=Hz (hk6 _ _ B5.o (Mr _)).1;have I6:=Hz (hk6 _ _ I5.o HW4.o).1;clear hk6)
   | (refine Qq rfl 33 (.tmp 4) (.tmp 48) rfl w.heap.size rfl zim rfl B6.o rfl J8 (one_igcs (Ig.no 0) none 0 0) ?_;intro w9 hB9 ho9))
  have q0:=hB9.o.cell (i:=0) rfl
  have q1:=hB9.o.cell (i:=1) rfl
  have q2:=hB9.o.cell (i:=2) rfl
  have q3:=hB9.o.cell (i:=3) rfl
  have q4:=hB9.o.cell (i:=4) rfl
  have q5:=hB9.o.cell (i:=5) rfl
  have q6:=hB9.o.cell (i:=6) rfl
  have q7:=hB9.o.cell (i:=7) rfl
  refine bodyPost_ret (v:=.tuple #[.agg #[.int .i64 0,.int .i64 0,.int .i64 0,.int .i64 0,.int .i64 0,.int .i64 0,.int .i64 0,.slice none 0 0],.int .i64 x]) (by simp [results,Tryz.results25,go_sem,q0,q1,q2,q3,q4,q5,q6,q7]) rfl ?_
  exact⟨none,0,0,rfl,HR6.o w9 ho9.o⟩
 ·go_enter Tryz.func25,Tryz.ntmps25
  go_wp2_with (first
   | (go_at_call 58;refine HU.o.mono ?_;rintro e w1 ⟨rfl,hb1⟩;have L1a:=L0.o.trans (hb1.mono L0.o.size);have L1:=Hz (L1a.alloc L1a.size (.cells (pcs d la s0 s1).toArray 80));have B1:=Hz ((B0.o.below hb1).alloc (.cells (pcs d la s0 s1).toArray 80));have X1:=Hz (Blk.new w1 80 (pcs d la s0 s1));clear hb1 L1a)
   | (go_at_call 32;refine (H1.o _ L1.o).mono ?_;rintro e w2 ⟨rfl,hb2⟩;have L2:=Hz (L1.o.trans (hb2.mono L1.o.size));have B2:=Hz (B1.o.below hb2);have X2:=Hz (X1.o.below hb2);clear hb2)
   | (go_at_call 59;refine (HBT.o _).mono ?_;rintro e w3 ⟨rfl,hb3⟩;have L3a:=L2.o.trans (hb3.mono L2.o.size);have L3:=Hz (L3a.alloc L3a.size (.cells #[.int .i64 n0,.int .i64 n1,.int .i64 na,.int .i64 nc,.int .i64 nl,.int .i64 nb] 66));have B3:=Hz ((B2.o.below hb3).alloc (.cells #[.int .i64 n0,.int .i64 n1,.int .i64 na,.int .i64 nc,.int .i64 nl,.int .i64 nb] 66));have X3:=Hz ((X2.o.below hb3).alloc (.cells #[.int .i64 n0,.int .i64 n1,.int .i64 na,.int .i64 nc,.int .i64 nl,.int .i64 nb] 66));have R3:=Hz (Blk.new w3 66 [.int .i64 n0,.int .i64 n1,.int .i64 na,.int .i64 nc,.int .i64 nl,.int .i64 nb]);clear hb3 L3a)
   | (refine Qz rfl 78 (.tmp 25) rfl w1.heap.size 1 rfl [.pointer (some ⟨s0,0,none⟩),.pointer (some ⟨s1,0,none⟩)] X3.o rfl Tryz.underlying78 rfl Q8 ?_)
   | (go_at_call 55;refine (H2.o _ L3.o).mono ?_;rintro e w4 ⟨B4,m4,d4,rfl,hR,hb4⟩;rw [HIE];have L4a:=L3.o.trans (hb4.mono L3.o.size);have HW4:=Hz L4a.size;have L4:=Hz (L4a.alloc L4a.size (.cells #[.int .i64 i.p,.int .i64 i.v,.int .i64 i.h,.int .i64 i.m,.int .i64 i.f,.int .i64 i.s,.int .i64 i.r,.slice B4 m4 d4] 33));have B4':=Hz ((B3.o.below hb4).alloc (.cells #[.int .i64 i.p,.int .i64 i.v,.int .i64 i.h,.int .i64 i.m,.int .i64 i.f,.int .i64 i.s,.int .i64 i.r,.slice B4 m4 d4] 33));have X4:=Hz ((X3.o.below hb4).alloc (.cells #[.int .i64 i.p,.int .i64 i.v,.int .i64 i.h,.int .i64 i.m,.int .i64 i.f,.int .i64 i.s,.int .i64 i.r,.slice B4 m4 d4] 33));have R4:=Hz ((R3.o.below hb4).alloc (.cells #[.int .i64 i.p,.int .i64 i.v,.int .i64 i.h,.int .i64 i.m,.int .i64 i.f,.int .i64 i.s,.int .i64 i.r,.slice B4 m4 d4] 33));have I4:=Hz (Blk.new w4 33 [.int .i64 i.p,.int .i64 i.v,.int .i64 i.h,.int .i64 i.m,.int .i64 i.f,.int .i64 i.s,.int .i64 i.r,.slice B4 m4 d4]);clear hb4 hR L4a)
   | (refine Qj rfl 80 (.tmp 6) rfl w1.heap.size rfl X4.o Tryz.underlying80 rfl Qy ?_)
   | (go_at_call 60;refine (H3.o _ L4.o).mono ?_;rintro e w5 ⟨rfl,hb5⟩;have L5:=Hz (L4.o.trans (hb5.mono L4.o.size));have B5:=Hz (B4'.o.below hb5);have X5:=Hz (X4.o.below hb5);have R5:=Hz (R4.o.below hb5);have I5:=Hz (I4.o.below hb5);have x0:=X5.o.cell (i:=0) rfl;clear hb5)
   | (refine Qj rfl 66 (.tmp 8) rfl w3.heap.size rfl R5.o Tryz.underlying66 rfl Jj ?_)
   | (go_at_call 57;refine (H4.o _ L5.o).mono ?_;rintro e w6 ⟨rfl,hk6⟩;have HR6:=Hz (hk6 _ _ B5.o (Mr _)).2;have B6:=Hz (hk6 _ _ B5.o (Mr _)).1;have I6:=Hz (hk6 _ _ I5.o HW4.o).1;clear hk6)
   | (refine Qq rfl 33 (.tmp 4) (.tmp 48) rfl w.heap.size rfl zim rfl B6.o rfl J8 (one_igcs (Ig.no 0) none 0 0) ?_;intro w9 hB9 ho9))
  have q0:=hB9.o.cell (i:=0) rfl
  have q1:=hB9.o.cell (i:=1) rfl
  have q2:=hB9.o.cell (i:=2) rfl
  have q3:=hB9.o.cell (i:=3) rfl
  have q4:=hB9.o.cell (i:=4) rfl
  have q5:=hB9.o.cell (i:=5) rfl
  have q6:=hB9.o.cell (i:=6) rfl
  have q7:=hB9.o.cell (i:=7) rfl
  refine bodyPost_ret (v:=.tuple #[.agg #[.int .i64 0,.int .i64 0,.int .i64 0,.int .i64 0,.int .i64 0,.int .i64 0,.int .i64 0,.slice none 0 0],.int .i64 x]) (by simp [results,Tryz.results25,go_sem,q0,q1,q2,q3,q4,q5,q6,q7]) rfl ?_
  exact⟨none,0,0,rfl,HR6.o w9 ho9.o⟩
theorem qjq (zv:Value) (q:Int) (r0 r1 a c l b:Int) (ha:0≤a∧a≤1) (hl:0≤l∧l≤7) (n0 n1 na nc nl nb:Int) (hn:btR ⟨r0,r1,a,c,l,b⟩=⟨n0,n1,na,nc,nl,nb⟩) (i:Ig) (h:Ats w zv q (fun w'=>Is w' d la s0 s1)) (h1:Lat w la r0 r1 a c l b) (h2:Img w s0 s1 na i) (h3:Trs w d la s0 s1 true) (hi:i.e=0)
 (h4:∀w',Bw w w'→Calls Tryz.prog 57 #[.pointer (some ⟨la,0,none⟩),.agg #[.int .i64 n0,.int .i64 n1,.int .i64 na,.int .i64 nc,.int .i64 nl,.int .i64 nb]] w' fun e w''=>e=.returned (.int .i64 0)∧∀b C,Blk w' b 33 C→w.heap.size≤b→Blk w'' b 33 C∧∀w3,Only b w'' w3→R w3) :
 Calls Tryz.prog 25 #[zv,.int .i64 q] w (Bo i 0 R):=by
 have L0:=Hz (show Bw w (w.alloc (.cells zim.toArray 33)) from (Mb _ _).alloc (Mr _) _)
 have B0:=Hz (Blk.new w 33 zim)
 have HU:=Hz (h _ L0.o)
 have H1:=Hz h1
 have H2:=Hz h2
 have H3:=Hz h3
 have HIE:=Hz hi
 have H4:=Hz h4
 have hbt:=fun w'=>Y0 r0 r1 a c l b ha hl w'
 rw [hn] at hbt
 dsimp only [rval] at hbt
 have HBT:=Hz hbt
 clear h h1 h2 h3 hbt hn h4 hi
 go_enter Tryz.func25,Tryz.ntmps25
 go_wp2_with (first
  | (go_at_call 58;refine HU.o.mono ?_;rintro e w1 ⟨rfl,hb1⟩;have L1a:=L0.o.trans (hb1.mono L0.o.size);have L1:=Hz (L1a.alloc L1a.size (.cells (pcs d la s0 s1).toArray 80));have B1:=Hz ((B0.o.below hb1).alloc (.cells (pcs d la s0 s1).toArray 80));have X1:=Hz (Blk.new w1 80 (pcs d la s0 s1));clear hb1 L1a)
  | (go_at_call 32;refine (H1.o _ L1.o).mono ?_;rintro e w2 ⟨rfl,hb2⟩;have L2:=Hz (L1.o.trans (hb2.mono L1.o.size));have B2:=Hz (B1.o.below hb2);have X2:=Hz (X1.o.below hb2);clear hb2)
  | (go_at_call 59;refine (HBT.o _).mono ?_;rintro e w3 ⟨rfl,hb3⟩;have L3a:=L2.o.trans (hb3.mono L2.o.size);have L3:=Hz (L3a.alloc L3a.size (.cells #[.int .i64 n0,.int .i64 n1,.int .i64 na,.int .i64 nc,.int .i64 nl,.int .i64 nb] 66));have B3:=Hz ((B2.o.below hb3).alloc (.cells #[.int .i64 n0,.int .i64 n1,.int .i64 na,.int .i64 nc,.int .i64 nl,.int .i64 nb] 66));have X3:=Hz ((X2.o.below hb3).alloc (.cells #[.int .i64 n0,.int .i64 n1,.int .i64 na,.int .i64 nc,.int .i64 nl,.int .i64 nb] 66));have R3:=Hz (Blk.new w3 66 [.int .i64 n0,.int .i64 n1,.int .i64 na,.int .i64 nc,.int .i64 nl,.int .i64 nb]);clear hb3 L3a)
  | (refine Qz rfl 78 (.tmp 25) rfl w1.heap.size 1 rfl [.pointer (some ⟨s0,0,none⟩),.pointer (some ⟨s1,0,none⟩)] X3.o rfl Tryz.underlying78 rfl Q8 ?_)
  | (go_at_call 55;refine (H2.o _ L3.o).mono ?_;rintro e w4 ⟨B4,m4,d4,rfl,hR,hb4⟩;rw [HIE.o];have L4a:=L3.o.trans (hb4.mono L3.o.size);have HW4:=Hz L4a.size;have L4:=Hz (L4a.alloc L4a.size (.cells #[.int .i64 i.p,.int .i64 i.v,.int .i64 i.h,.int .i64 i.m,.int .i64 i.f,.int .i64 i.s,.int .i64 i.r,.slice B4 m4 d4] 33));have B4':=Hz ((B3.o.below hb4).alloc (.cells #[.int .i64 i.p,.int .i64 i.v,.int .i64 i.h,.int .i64 i.m,.int .i64 i.f,.int .i64 i.s,.int .i64 i.r,.slice B4 m4 d4] 33));have X4:=Hz ((X3.o.below hb4).alloc (.cells #[.int .i64 i.p,.int .i64 i.v,.int .i64 i.h,.int .i64 i.m,.int .i64 i.f,.int .i64 i.s,.int .i64 i.r,.slice B4 m4 d4] 33));have R4:=Hz ((R3.o.below hb4).alloc (.cells #[.int .i64 i.p,.int .i64 i.v,.int .i64 i.h,.int .i64 i.m,.int .i64 i.f,.int .i64 i.s,.int .i64 i.r,.slice B4 m4 d4] 33));have I4:=Hz (Blk.new w4 33 [.int .i64 i.p,.int .i64 i.v,.int .i64 i.h,.int .i64 i.m,.int .i64 i.f,.int .i64 i.s,.int .i64 i.r,.slice B4 m4 d4]);clear hb4 hR L4a)
  | (refine Qj rfl 80 (.tmp 6) rfl w1.heap.size rfl X4.o Tryz.underlying80 rfl Qy ?_)
  | (go_at_call 60;refine (H3.o _ L4.o).mono ?_;rintro e w5 ⟨rfl,hb5⟩;have L5:=Hz (L4.o.trans (hb5.mono L4.o.size));have B5:=Hz (B4'.o.below hb5);have X5:=Hz (X4.o.below hb5);have R5:=Hz (R4.o.below hb5);have I5:=Hz (I4.o.below hb5);have x0:=X5.o.cell (i:=0) rfl;clear hb5)
  | (refine Qj rfl 66 (.tmp 8) rfl w3.heap.size rfl R5.o Tryz.underlying66 rfl Jj ?_)
  | (go_at_call 57;refine (H4.o _ L5.o).mono ?_;rintro e w6 ⟨rfl,hk6⟩;have HR6:=Hz (hk6 _ _ B5.o (Mr _)).2;have B6:=Hz (hk6 _ _ B5.o (Mr _)).1;have I6:=Hz (hk6 _ _ I5.o HW4.o).1;clear hk6)
  | (refine Qj rfl 33 (.tmp 9) rfl w4.heap.size rfl I6.o Tryz.underlying33 rfl J8 ?_)
  | (refine Qq rfl 33 (.tmp 4) (.tmp 50) rfl w.heap.size rfl (igcs i B4 m4 d4) rfl B6.o rfl J8 (one_igcs i B4 m4 d4) ?_;intro w9 hB9 ho9))
 have q0:=hB9.o.cell (i:=0) rfl
 have q1:=hB9.o.cell (i:=1) rfl
 have q2:=hB9.o.cell (i:=2) rfl
 have q3:=hB9.o.cell (i:=3) rfl
 have q4:=hB9.o.cell (i:=4) rfl
 have q5:=hB9.o.cell (i:=5) rfl
 have q6:=hB9.o.cell (i:=6) rfl
 have q7:=hB9.o.cell (i:=7) rfl
 refine bodyPost_ret (v:=.tuple #[.agg #[.int .i64 i.p,.int .i64 i.v,.int .i64 i.h,.int .i64 i.m,.int .i64 i.f,.int .i64 i.s,.int .i64 i.r,.slice B4 m4 d4],.int .i64 0]) (by simp [results,Tryz.results25,go_sem,q0,q1,q2,q3,q4,q5,q6,q7]) rfl ?_
 exact⟨B4,m4,d4,rfl,HR6.o w9 ho9.o⟩
end
end StoN
namespace StoN
open Mem RecM
open ImgT (Ig iG)
open ImgU (Gi)
open RecA (rval rcells rok sval scells sok)
section
variable {w:World} {R:World→Prop} {d la s0 s1:Nat} {x:Int}
theorem qvv (zv:Value) (q:Int) (r0 r1 a c l b:Int) (h:Ats w zv q (fun w'=>Is w' d la s0 s1)) (h1:Lat w la r0 r1 a c l b):Calls Tryz.prog 26 #[zv,.int .i64 q] w fun e w'=>e=.returned (.agg #[.int .i64 r0,.int .i64 r1,.int .i64 a,.int .i64 c,.int .i64 l,.int .i64 b])∧Bw w w':=by
 have L0:=Hz (show Bw w (w.alloc (.cells (rcells Rc.none).toArray 66)) from (Mb _ _).alloc (Mr _) _)
 have B0:=Hz (Blk.new w 66 (rcells Rc.none))
 have HU:=Hz (h _ L0.o)
 have H1:=Hz h1
 clear h h1
 go_enter Tryz.func26,Tryz.ntmps26
 go_wp2_with (first
  | (go_at_call 58;refine HU.o.mono ?_;rintro e w1 ⟨rfl,hb1⟩;have L1a:=L0.o.trans (hb1.mono L0.o.size);have L1:=Hz (L1a.alloc L1a.size (.cells (pcs d la s0 s1).toArray 80));have B1:=Hz ((B0.o.below hb1).alloc (.cells (pcs d la s0 s1).toArray 80));clear hb1 L1a)
  | (go_at_call 32;refine (H1.o _ L1.o).mono ?_;rintro e w2 ⟨rfl,hb2⟩;have L2:=Hz (L1.o.trans (hb2.mono L1.o.size));have B2:=Hz (B1.o.below hb2);clear hb2)
  | (refine Qq rfl 66 (.tmp 4) (.tmp 18) rfl w.heap.size rfl (rcells ⟨r0,r1,a,c,l,b⟩) rfl B2.o rfl Jj (RecN.one_r _) ?_;intro w9 hB9 ho9))
 have q0:=hB9.o.cell (i:=0) rfl
 have q1:=hB9.o.cell (i:=1) rfl
 have q2:=hB9.o.cell (i:=2) rfl
 have q3:=hB9.o.cell (i:=3) rfl
 have q4:=hB9.o.cell (i:=4) rfl
 have q5:=hB9.o.cell (i:=5) rfl
 refine bodyPost_ret (v:=.agg #[.int .i64 r0,.int .i64 r1,.int .i64 a,.int .i64 c,.int .i64 l,.int .i64 b]) (by simp [results,Tryz.results26,go_sem,q0,q1,q2,q3,q4,q5]) rfl ?_
 exact⟨rfl,ho9.o.below L2.o (Mr _) L2.o.size⟩
end
end StoN
namespace CpaN0
open Mem
open TabA (Tri Ta Tris)
open TabB (Yes)
open ImgA (Im)
@[reducible] def qval (t:Ta) (p:Int) (i:Im) (v:Int):Value:=.agg #[.int .i64 t.fr,.slice t.A1 t.n1 t.c1,.slice t.A2 t.n2 t.c2,.slice t.A3 t.n3 t.c3,.int .i64 t.tr,.int .i64 p,.int .i64 i.p,.int .i64 i.v,.int .i64 i.h,.int .i64 i.m,.int .i64 i.f,.int .i64 i.s,.int .i64 i.r,.slice i.A i.n i.c,.int .i64 v]
def qcells (t:Ta) (p:Int) (i:Im) (v:Int):List Value:=[.int .i64 t.fr,.slice t.A1 t.n1 t.c1,.slice t.A2 t.n2 t.c2,.slice t.A3 t.n3 t.c3,.int .i64 t.tr,.int .i64 p,.int .i64 i.p,.int .i64 i.v,.int .i64 i.h,.int .i64 i.m,.int .i64 i.f,.int .i64 i.s,.int .i64 i.r,.slice i.A i.n i.c,.int .i64 v]
structure Rq (w:World) (g:Nat) (t:Ta) (p:Int) (i:Im) (v:Int) (wr:World):Prop where
 qb:Blk wr g 131 (qcells t p i v)
 lo:w.heap.size≤g
 bel:Bw w wr
theorem Rq.new (w:World) (t:Ta) (p:Int) (i:Im) (v:Int):Rq w w.heap.size t p i v (w.alloc (.cells (qcells t p i v).toArray 131)):=⟨Blk.new w _ _,Mr _,(Mb _ _).alloc (Mr _) _⟩
section
variable {w wr w':World} {g:Nat} {t:Ta} {p v:Int} {i:Im}
theorem Rq.below (h:Rq w g t p i v wr) (hb:Bw wr w'):Rq w g t p i v w':=⟨h.qb.below hb,h.lo,h.bel.trans (hb.mono h.bel.size)⟩
theorem Rq.drewN (h:Rq w g t p i v wr) (n:Nat):Rq w g t p i v (wr.drewN n):=h.below ⟨rfl,rfl,rfl,Mr _,fun _ _=>rfl⟩
theorem Rq.alloc (h:Rq w g t p i v wr) (o:Obj):Rq w g t p i v (wr.alloc o):=h.below ((Mb _ _).alloc (Mr _) o)
theorem Rq.cell (h:Rq w g t p i v wr):(wr.cell? ⟨g,0,none⟩=some (.int .i64 t.fr)∧wr.cell? ⟨g,1,none⟩=some (.slice t.A1 t.n1 t.c1)∧wr.cell? ⟨g,2,none⟩=some (.slice t.A2 t.n2 t.c2)∧wr.cell? ⟨g,3,none⟩=some (.slice t.A3 t.n3 t.c3)∧wr.cell? ⟨g,4,none⟩=some (.int .i64 t.tr))∧wr.cell? ⟨g,5,none⟩=some (.int .i64 p)∧
 (wr.cell? ⟨g,6,none⟩=some (.int .i64 i.p)∧wr.cell? ⟨g,7,none⟩=some (.int .i64 i.v)∧wr.cell? ⟨g,8,none⟩=some (.int .i64 i.h)∧wr.cell? ⟨g,9,none⟩=some (.int .i64 i.m)∧wr.cell? ⟨g,10,none⟩=some (.int .i64 i.f)∧wr.cell? ⟨g,11,none⟩=some (.int .i64 i.s)∧wr.cell? ⟨g,12,none⟩=some (.int .i64 i.r)∧wr.cell? ⟨g,13,none⟩=some (.slice i.A i.n i.c))∧wr.cell? ⟨g,14,none⟩=some (.int .i64 v):=
 ⟨⟨h.qb.cell rfl,h.qb.cell rfl,h.qb.cell rfl,h.qb.cell rfl,h.qb.cell rfl⟩,h.qb.cell rfl,⟨h.qb.cell rfl,h.qb.cell rfl,h.qb.cell rfl,h.qb.cell rfl,h.qb.cell rfl,h.qb.cell rfl,h.qb.cell rfl,h.qb.cell rfl⟩,h.qb.cell rfl⟩
end
theorem ret_y {a b:Bool} (h:a=b):Ending.returned (.bool a)=.returned (.bool b):=by rw [h]
theorem q_table (t:Ta) (p:Int) (i:Im) (v:Int) (w:World) (ht:t.ok w) (br:Bool) (hbr:br=true↔TabD.right t) :
 Calls Tryz.prog 104 #[qval t p i v] w (Yes w br):=by
 have HN:=Hz (Rq.new w t p i v)
 have HR:=Hz (fun w' (hb:Bw w w')=>TabD.right_any t w' (ht.below hb) br hbr)
 obtain⟨fr,A1,n1,c1,P,A2,n2,c2,W,A3,n3,c3,C,tr⟩:=t
 obtain⟨ip,iv,ih,im,if_,is_,ir,iA,in_,ic,ixs⟩:=i
 clear ht hbr
 show Calls _ _ #[.agg #[.int .i64 fr,.slice A1 n1 c1,.slice A2 n2 c2,.slice A3 n3 c3,.int .i64 tr,.int .i64 p,.int .i64 ip,.int .i64 iv,.int .i64 ih,.int .i64 im,.int .i64 if_,.int .i64 is_,.int .i64 ir,.slice iA in_ ic,.int .i64 v]] w _
 go_enter Tryz.func104,Tryz.ntmps104
 go_wp2_with fail
 refine (HR.o _ HN.o.bel).mono ?_
 rintro e w2 ⟨rfl,hb2⟩
 have HN2:=Hz (HN.o.below hb2)
 clear hb2
 go_wp2_with fail
 go_ret
 exact⟨rfl,HN2.o.bel⟩
theorem q_image (t:Ta) (p:Int) (i:Im) (v:Int) (w:World) (hi:i.ok w) (bi:Bool) (hbi:bi=true↔ImgB.right i) :
 Calls Tryz.prog 106 #[qval t p i v] w (Yes w bi):=by
 have HN:=Hz (Rq.new w t p i v)
 have HR:=Hz (fun w'=>ImgB.right_any i w' (by have:=hi.code.le;have:=hi.code.cap;omega) bi hbi)
 obtain⟨fr,A1,n1,c1,P,A2,n2,c2,W,A3,n3,c3,C,tr⟩:=t
 obtain⟨ip,iv,ih,im,if_,is_,ir,iA,in_,ic,ixs⟩:=i
 clear hi hbi
 show Calls _ _ #[.agg #[.int .i64 fr,.slice A1 n1 c1,.slice A2 n2 c2,.slice A3 n3 c3,.int .i64 tr,.int .i64 p,.int .i64 ip,.int .i64 iv,.int .i64 ih,.int .i64 im,.int .i64 if_,.int .i64 is_,.int .i64 ir,.slice iA in_ ic,.int .i64 v]] w _
 go_enter Tryz.func106,Tryz.ntmps106
 go_wp2_with fail
 refine (HR.o _).mono ?_
 rintro e w2 ⟨rfl,hb2⟩
 have HN2:=Hz (HN.o.below hb2)
 clear hb2
 go_wp2_with fail
 go_ret
 exact⟨rfl,HN2.o.bel⟩
theorem q_known (t:Ta) (p:Int) (i:Im) (v:Int) (w:World) (b:Bool) (hb:b=true↔0≤p∧p<(t.n1:Int)) (hn:t.n1≤9223372036854775807) :
 Calls Tryz.prog 105 #[qval t p i v] w (Yes w b):=by
 have HN:=Hz (Rq.new w t p i v)
 have HB:=Hz hb
 obtain⟨fr,A1,n1,c1,P,A2,n2,c2,W,A3,n3,c3,C,tr⟩:=t
 obtain⟨ip,iv,ih,im,if_,is_,ir,iA,in_,ic,ixs⟩:=i
 dsimp only at hn
 clear hb
 by_cases h0:0≤p
 ·skip
  go_enter Tryz.func105,Tryz.ntmps105
  go_wp2_with fail
  go_ret
  exact⟨ret_y (by rw [Bool.eq_iff_iff,HB.o];simp [h0]),HN.o.bel⟩
 ·skip
  go_enter Tryz.func105,Tryz.ntmps105
  go_wp2_with fail
  go_ret
  exact⟨ret_y (by rw [Bool.eq_iff_iff,HB.o];simp;omega),HN.o.bel⟩
theorem q_newer (t:Ta) (p:Int) (i:Im) (v:Int) (w:World) (b:Bool) (hb:b=true↔v<i.v) :
 Calls Tryz.prog 110 #[qval t p i v] w (Yes w b):=by
 have HN:=Hz (Rq.new w t p i v)
 have HB:=Hz hb
 obtain⟨fr,A1,n1,c1,P,A2,n2,c2,W,A3,n3,c3,C,tr⟩:=t
 obtain⟨ip,iv,ih,im,if_,is_,ir,iA,in_,ic,ixs⟩:=i
 clear hb
 show Calls _ _ #[.agg #[.int .i64 fr,.slice A1 n1 c1,.slice A2 n2 c2,.slice A3 n3 c3,.int .i64 tr,.int .i64 p,.int .i64 ip,.int .i64 iv,.int .i64 ih,.int .i64 im,.int .i64 if_,.int .i64 is_,.int .i64 ir,.slice iA in_ ic,.int .i64 v]] w _
 go_enter Tryz.func110,Tryz.ntmps110
 go_wp2_with fail
 go_ret
 exact⟨ret_y (by rw [Bool.eq_iff_iff,HB.o];simp),HN.o.bel⟩
end CpaN0
namespace CpaN1
open CpaM CpaN0
open TabA (Tri Ta Tris)
open TabB (Yes)
open ImgA (Im)
theorem pof_at {t:Ta} {q:Nat} {r:Tri} (h:t.P[q]?=some r):pof t (q:Int)=r:=by
 unfold pof
 rw [Int.toNat_natCast,Mg,h]
 rfl
theorem q_meant (t:Ta) (q:Nat) (i:Im) (v:Int) (w:World) (ht:t.ok w) (hq:q<t.n1) (b:Bool) (hb:b=true↔i.p=(q:Int)∧i.h=(pof t (q:Int)).c) :
 Calls Tryz.prog 107 #[qval t (q:Int) i v] w (Yes w b):=by
 have HN:=Hz (Rq.new w t (q:Int) i v)
 obtain⟨r,bl,o,hr,_,hA,_,r0,r1,r2⟩:=(ht.alloc (.cells (qcells t (q:Int) i v).toArray 131)).P.at_ hq
 rw [pof_at hr] at hb
 have hn1:=ht.P.le
 have HB:=Hz hb
 obtain⟨fr,A1,n1,c1,P,A2,n2,c2,W,A3,n3,c3,C,tr⟩:=t
 obtain⟨ip,iv,ih,im,if_,is_,ir,iA,in_,ic,ixs⟩:=i
 obtain⟨ra,rb,rc⟩:=r
 dsimp only at hA hn1 HB r2 hq
 subst hA
 clear hb hr ht r0 r1
 have s2:(w.alloc (.cells #[.int .i64 fr,.slice (some ⟨bl,o,none⟩) n1 c1,.slice A2 n2 c2,.slice A3 n3 c3,.int .i64 tr,.int .i64 (q:Int),.int .i64 ip,.int .i64 iv,.int .i64 ih,.int .i64 im,.int .i64 if_,.int .i64 is_,.int .i64 ir,.slice iA in_ ic,.int .i64 v] 131)).cell? ⟨bl,o+q*3+2,none⟩=some (.int .i64 rc):=r2
 clear r2
 by_cases h1:ip=(q:Int)
 ·subst h1
  have e1:((q:Int)==(q:Int))=true:=by simp
  go_enter Tryz.func107,Tryz.ntmps107
  go_wp2_with fail
  go_quiet (fail)
  go_wp2_with fail
  go_ret
  exact⟨ret_y (by rw [Bool.eq_iff_iff,HB.o];simp),(HN.o.drewN _).bel⟩
 ·have e1:(ip==(q:Int))=false:=by simpa using h1
  go_enter Tryz.func107,Tryz.ntmps107
  go_wp2_with fail
  go_quiet (fail)
  go_wp2_with fail
  go_ret
  exact⟨ret_y (by rw [Bool.eq_iff_iff,HB.o];simp [h1]),(HN.o.drewN _).bel⟩
theorem q_small (t:Ta) (q:Nat) (i:Im) (v:Int) (w:World) (ht:t.ok w) (hq:q<t.n1) (b:Bool) (hb:b=true↔i.m≤(pof t (q:Int)).a∧i.f≤(pof t (q:Int)).b) :
 Calls Tryz.prog 108 #[qval t (q:Int) i v] w (Yes w b):=by
 have HN:=Hz (Rq.new w t (q:Int) i v)
 obtain⟨r,bl,o,hr,_,hA,_,r0,r1,r2⟩:=(ht.alloc (.cells (qcells t (q:Int) i v).toArray 131)).P.at_ hq
 rw [pof_at hr] at hb
 have hn1:=ht.P.le
 have HB:=Hz hb
 obtain⟨fr,A1,n1,c1,P,A2,n2,c2,W,A3,n3,c3,C,tr⟩:=t
 obtain⟨ip,iv,ih,im,if_,is_,ir,iA,in_,ic,ixs⟩:=i
 obtain⟨ra,rb,rc⟩:=r
 dsimp only at hA hn1 HB r0 r1 r2 hq
 subst hA
 clear hb hr ht
 have s0:(w.alloc (.cells #[.int .i64 fr,.slice (some ⟨bl,o,none⟩) n1 c1,.slice A2 n2 c2,.slice A3 n3 c3,.int .i64 tr,.int .i64 (q:Int),.int .i64 ip,.int .i64 iv,.int .i64 ih,.int .i64 im,.int .i64 if_,.int .i64 is_,.int .i64 ir,.slice iA in_ ic,.int .i64 v] 131)).cell? ⟨bl,o+q*3,none⟩=some (.int .i64 ra):=r0
 have s1:(w.alloc (.cells #[.int .i64 fr,.slice (some ⟨bl,o,none⟩) n1 c1,.slice A2 n2 c2,.slice A3 n3 c3,.int .i64 tr,.int .i64 (q:Int),.int .i64 ip,.int .i64 iv,.int .i64 ih,.int .i64 im,.int .i64 if_,.int .i64 is_,.int .i64 ir,.slice iA in_ ic,.int .i64 v] 131)).cell? ⟨bl,o+q*3+1,none⟩=some (.int .i64 rb):=r1
 have s2:(w.alloc (.cells #[.int .i64 fr,.slice (some ⟨bl,o,none⟩) n1 c1,.slice A2 n2 c2,.slice A3 n3 c3,.int .i64 tr,.int .i64 (q:Int),.int .i64 ip,.int .i64 iv,.int .i64 ih,.int .i64 im,.int .i64 if_,.int .i64 is_,.int .i64 ir,.slice iA in_ ic,.int .i64 v] 131)).cell? ⟨bl,o+q*3+2,none⟩=some (.int .i64 rc):=r2
 clear r0 r1 r2
 by_cases h1:im≤ra
 ·go_enter Tryz.func108,Tryz.ntmps108
  go_wp2_with fail
  go_ret
  exact⟨ret_y (by rw [Bool.eq_iff_iff,HB.o];simp [h1]),((HN.o.alloc _)).bel⟩
 ·go_enter Tryz.func108,Tryz.ntmps108
  go_wp2_with fail
  go_ret
  exact⟨ret_y (by rw [Bool.eq_iff_iff,HB.o];simp;omega),((HN.o.alloc _)).bel⟩
end CpaN1
namespace CpaN2
open CpaM
open TabA (Tri Ta Tris)
open TabB (Yes Bx)
open BitM (hb pw ret_i)
structure Acc (P:Nat→Prop) (k:Nat) (x:Int):Prop where
 lo:0≤x
 hi:x≤15
 bit:∀j:Nat,j<4→(hb x j=true↔j<k∧P j)
theorem Acc.zero (P:Nat→Prop):Acc P 0 0:=⟨by decide,by decide,fun j _=>⟨fun h=>by unfold hb at h;simp at h,fun h=>absurd h.1 (by omega)⟩⟩
theorem Acc.no {P:Nat→Prop} {k:Nat} {x:Int} (h:Acc P k x) (hp : ¬P k):Acc P (k+1) x:=⟨h.lo,h.hi,fun j hj=>by
 rw [h.bit j hj]
 refine⟨fun⟨a,b⟩=>⟨by omega,b⟩,fun⟨a,b⟩=>⟨?_,b⟩⟩
 by_cases e:j=k
 ·subst e
  exact absurd b hp
 ·omega⟩
theorem or_four:∀s:Fin 16,∀k:Fin 4,0≤bits .or .i64 (s.val:Int) (2 ^ k.val)∧bits .or .i64 (s.val:Int) (2 ^ k.val)≤15∧∀j:Fin 4,hb (bits .or .i64 (s.val:Int) (2 ^ k.val)) (j.val:Int)=(hb (s.val:Int) (j.val:Int) || decide (j=k)):=by decide +kernel
theorem Acc.yes {P:Nat→Prop} {k:Nat} {x:Int} (h:Acc P k x) (hk:k<4) (hp:P k):Acc P (k+1) (bits .or .i64 x (wrap64 (2 ^ k))):=by
 obtain⟨s,rfl⟩:∃s:Fin 16,x=(s.val:Int):=⟨⟨x.toNat,by have:=h.lo;have:=h.hi;omega⟩,by have:=h.lo;show x=((x.toNat:Nat):Int);omega⟩
 obtain⟨h0,h1,h2⟩:=or_four s ⟨k,hk⟩
 have e:wrap64 (2 ^ k)=2 ^ k:=by
  match k,hk with
  | 0,_=>unfold wrap64;decide
  | 1,_=>unfold wrap64;decide
  | 2,_=>unfold wrap64;decide
  | 3,_=>unfold wrap64;decide
 rw [e]
 refine⟨h0,h1,fun j hj=>?_⟩
 have h3:=h2 ⟨j,hj⟩
 have h3:hb (bits .or .i64 (s.val:Int) (2 ^ k)) (j:Int)=(hb (s.val:Int) (j:Int) || decide ((⟨j,hj⟩:Fin 4)=⟨k,hk⟩)):=h3
 rw [h3,Bool.or_eq_true,h.bit j hj,decide_eq_true_eq,Fin.mk.injEq]
 refine⟨?_,fun⟨a,b⟩=>?_⟩
 ·rintro (⟨a,b⟩|rfl)
  ·exact⟨by omega,b⟩
  ·exact⟨by omega,hp⟩
 ·by_cases e:j=k
  ·exact .inr e
  ·exact .inl ⟨by omega,b⟩
theorem Acc.bits {P:Nat→Prop} {k:Nat} {x:Int} (h:Acc P k x) (hP:∀j,P j→j<k):Bits4 P x:=⟨h.lo,h.hi,fun j hj=>by rw [h.bit j hj];exact⟨fun a=>a.2,fun a=>⟨hP j a,a⟩⟩⟩
theorem Acc.none {P:Nat→Prop} {k:Nat} {x:Int} (h:Acc P k x) (hP:∀j,¬P j):x=0:=by
 have h0:=h.lo
 have h1:=h.hi
 have hb0:∀j:Nat,j<4→hb x j=false:=fun j hj=>by rw [Bool.eq_false_iff];intro e;exact hP j ((h.bit j hj).1 e).2
 obtain⟨s,rfl⟩:∃s:Fin 16,x=(s.val:Int):=⟨⟨x.toNat,by omega⟩,by show x=((x.toNat:Nat):Int);omega⟩
 have key:∀s:Fin 16,(hb (s.val:Int) ((0:Nat):Int)=false∧hb (s.val:Int) ((1:Nat):Int)=false∧hb (s.val:Int) ((2:Nat):Int)=false∧hb (s.val:Int) ((3:Nat):Int)=false)→(s.val:Int)=0:=by decide +kernel
 exact key s ⟨hb0 0 (by omega),hb0 1 (by omega),hb0 2 (by omega),hb0 3 (by omega)⟩
theorem fr_any (a b c:Int) (w:World):Calls Tryz.prog 179 #[.agg #[.int .i64 a,.int .i64 b,.int .i64 c]] w fun e w'=>e=.returned (.int .i64 a)∧Bw w w':=by
 go_enter Tryz.func179,Tryz.ntmps179
 go_wp2_with fail
 go_ret
 exact⟨rfl,(Mb _ _).alloc (Mr _) _⟩
theorem ch_from (t:Ta) (p:Int) (w:World) (ht:t.ok w) :
 Calls Tryz.prog 178 #[t.val,.int .i64 p,.func (.func 179) #[] #[]] w fun e w'=>∃x,e=.returned (.int .i64 x)∧Bw w w'∧(¬(TabD.right t∧0≤p∧p<t.n1)→x=0)∧(TabD.right t∧0≤p∧p<t.n1→Bits4 (From t p) x):=by
 obtain⟨br,hbr⟩:=TabD.Q2 (TabD.right t)
 have HT:=Hz ht
 have HBR:=Hz hbr
 have hn3:=ht.C.le
 have hln:t.P.length=t.n1:=ht.P.1
 have hlc:t.C.length=t.n3:=ht.C.1
 have HLN:=Hz hln
 have HLC:=Hz hlc
 have HR:=Hz (fun w' (hb:Bw w w')=>TabD.right_any t w' (ht.below hb) br hbr)
 have HX:=Hz (Bx.new w t)
 obtain⟨fr,A1,n1,c1,P,A2,n2,c2,W,A3,n3,c3,C,tr⟩:=t
 dsimp only at hn3
 clear ht hbr hln hlc
 show Calls _ _ #[.agg #[.int .i64 fr,.slice A1 n1 c1,.slice A2 n2 c2,.slice A3 n3 c3,.int .i64 tr],_,_] w _
 go_enter Tryz.func178,Tryz.ntmps178
 go_wp2_with fail
 refine (HR.o _ HX.o.bel).mono ?_
 rintro e w2 ⟨rfl,hb2⟩
 have HX2:=Hz (HX.o.step hb2)
 clear hb2 HX
 cases br with
 | false=>
   have HF:=Hz (show ¬TabD.right ⟨fr,A1,n1,c1,P,A2,n2,c2,W,A3,n3,c3,C,tr⟩ from fun h=>by have:=HBR.o.2 h;cases this)
   go_wp2_with fail
   go_ret
   exact⟨0,rfl,HX2.o.bel,fun _=>rfl,fun h=>absurd h.1 HF.o⟩
 | true=>
   have HRt:=Hz (HBR.o.1 rfl)
   have h34:n3≤4:=by
    have h:=HRt.o.2.2.2.2.1
    have:=HLC.o
    dsimp only at this h
    omega
   obtain⟨z0,z1,z2,z3,z4⟩:=HX2.o.cell
   dsimp only at z0 z1 z2 z3 z4
   go_wp2_with fail
   clear z0 z1 z2 z3 z4
   go_loopw [7,16] (fun x i wr=>∃(k:Nat) (v:Int),k≤n3∧i=.int .i64 k∧x=.int .i64 v∧Hid (Acc (From ⟨fr,A1,n1,c1,P,A2,n2,c2,W,A3,n3,c3,C,tr⟩ p) k v)∧Hid (Bx w ⟨fr,A1,n1,c1,P,A2,n2,c2,W,A3,n3,c3,C,tr⟩ wr)) (fun _ i _=>n3-(intOf i).toNat)
   case atStart=>exact⟨0,0,Nat.zero_le _,rfl,rfl,Hz (Acc.zero _),HX2⟩
   case round=>
    obtain⟨k,v,hk,rfl,rfl,HU,HX1⟩:=hrel
    clear HX2
    by_cases hlt:k<n3
    ·obtain⟨r,b',o,hr,hok,hA,hb',q0,q1,q2⟩:=(HT.o.below HX1.o.bel).C.at_ hlt
     dsimp only at hA q0 q1 q2
     subst hA
     obtain⟨ra,rb,rc⟩:=r
     dsimp only at q0 q1 q2
     have HR:=Hz (show C[k]?=some ⟨ra,rb,rc⟩ from hr)
     clear hr hok
     by_cases he:ra=p
     ·have he':(ra==p)=true:=by simpa using he
      have HP:=Hz (show From ⟨fr,A1,n1,c1,P,A2,n2,c2,W,some ⟨b',o,none⟩,n3,c3,C,tr⟩ p k from⟨_,HR.o,he⟩)
      clear he
      go_wp2_with (go_at_call 179;refine (fr_any _ _ _ _).mono ?_;rintro e w3 ⟨rfl,hb3⟩;have HX3:=Hz ((HX1.o.alloc _).step hb3);clear hb3)
      go_roundw
      case rel=>exact⟨k+1,_,by omega,by go_num,rfl,Hz (HU.o.yes (by omega) HP.o),HX3⟩
      case measure=>simp [intOf];omega
     ·have he':(ra==p)=false:=by simpa using he
      have HP:=Hz (show ¬From ⟨fr,A1,n1,c1,P,A2,n2,c2,W,some ⟨b',o,none⟩,n3,c3,C,tr⟩ p k from fun⟨r,h1,h2⟩=>by rw [show C[k]?=some r from h1] at HR;have h3:=HR.o;injection h3 with h3;subst h3;exact he h2)
      clear he
      go_wp2_with (go_at_call 179;refine (fr_any _ _ _ _).mono ?_;rintro e w3 ⟨rfl,hb3⟩;have HX3:=Hz ((HX1.o.alloc _).step hb3);clear hb3)
      go_roundw
      case rel=>exact⟨k+1,_,by omega,by go_num,rfl,Hz (HU.o.no HP.o),HX3⟩
      case measure=>simp [intOf];omega
    ·obtain rfl:k=n3:=by omega
     go_wp2_with fail
     go_ret
     refine⟨v,rfl,HX1.o.bel,fun h=>?_,fun _=>HU.o.bits fun j ⟨r,h1,_⟩=>?_⟩
     ·refine HU.o.none fun j ⟨r,h1,h2⟩=>h ⟨HRt.o,?_⟩
      have h3:=HRt.o.2.2.2.2.2 j r h1
      have h4:=HLN.o
      dsimp only at h4 h3
      have h5:=h3.1
      rw [h4] at h5
      show 0≤p∧p<(n1:Int)
      omega
     ·have:=(List.getElem?_eq_some_iff.1 (show C[j]?=some r from h1)).1
      have:=HLC.o
      omega
theorem to_any (a b c:Int) (w:World):Calls Tryz.prog 180 #[.agg #[.int .i64 a,.int .i64 b,.int .i64 c]] w fun e w'=>e=.returned (.int .i64 b)∧Bw w w':=by
 go_enter Tryz.func180,Tryz.ntmps180
 go_wp2_with fail
 go_ret
 exact⟨rfl,(Mb _ _).alloc (Mr _) _⟩
theorem ch_to (t:Ta) (p:Int) (w:World) (ht:t.ok w) :
 Calls Tryz.prog 178 #[t.val,.int .i64 p,.func (.func 180) #[] #[]] w fun e w'=>∃x,e=.returned (.int .i64 x)∧Bw w w'∧(¬(TabD.right t∧0≤p∧p<t.n1)→x=0)∧(TabD.right t∧0≤p∧p<t.n1→Bits4 (To t p) x):=by
 obtain⟨br,hbr⟩:=TabD.Q2 (TabD.right t)
 have HT:=Hz ht
 have HBR:=Hz hbr
 have hn3:=ht.C.le
 have hln:t.P.length=t.n1:=ht.P.1
 have hlc:t.C.length=t.n3:=ht.C.1
 have HLN:=Hz hln
 have HLC:=Hz hlc
 have HR:=Hz (fun w' (hb:Bw w w')=>TabD.right_any t w' (ht.below hb) br hbr)
 have HX:=Hz (Bx.new w t)
 obtain⟨fr,A1,n1,c1,P,A2,n2,c2,W,A3,n3,c3,C,tr⟩:=t
 dsimp only at hn3
 clear ht hbr hln hlc
 show Calls _ _ #[.agg #[.int .i64 fr,.slice A1 n1 c1,.slice A2 n2 c2,.slice A3 n3 c3,.int .i64 tr],_,_] w _
 go_enter Tryz.func178,Tryz.ntmps178
 go_wp2_with fail
 refine (HR.o _ HX.o.bel).mono ?_
 rintro e w2 ⟨rfl,hb2⟩
 have HX2:=Hz (HX.o.step hb2)
 clear hb2 HX
 cases br with
 | false=>
   have HF:=Hz (show ¬TabD.right ⟨fr,A1,n1,c1,P,A2,n2,c2,W,A3,n3,c3,C,tr⟩ from fun h=>by have:=HBR.o.2 h;cases this)
   go_wp2_with fail
   go_ret
   exact⟨0,rfl,HX2.o.bel,fun _=>rfl,fun h=>absurd h.1 HF.o⟩
 | true=>
   have HRt:=Hz (HBR.o.1 rfl)
   have h34:n3≤4:=by
    have h:=HRt.o.2.2.2.2.1
    have:=HLC.o
    dsimp only at this h
    omega
   obtain⟨z0,z1,z2,z3,z4⟩:=HX2.o.cell
   dsimp only at z0 z1 z2 z3 z4
   go_wp2_with fail
   clear z0 z1 z2 z3 z4
   go_loopw [7,16] (fun x i wr=>∃(k:Nat) (v:Int),k≤n3∧i=.int .i64 k∧x=.int .i64 v∧Hid (Acc (To ⟨fr,A1,n1,c1,P,A2,n2,c2,W,A3,n3,c3,C,tr⟩ p) k v)∧Hid (Bx w ⟨fr,A1,n1,c1,P,A2,n2,c2,W,A3,n3,c3,C,tr⟩ wr)) (fun _ i _=>n3-(intOf i).toNat)
   case atStart=>exact⟨0,0,Nat.zero_le _,rfl,rfl,Hz (Acc.zero _),HX2⟩
   case round=>
    obtain⟨k,v,hk,rfl,rfl,HU,HX1⟩:=hrel
    clear HX2
    by_cases hlt:k<n3
    ·obtain⟨r,b',o,hr,hok,hA,hb',q0,q1,q2⟩:=(HT.o.below HX1.o.bel).C.at_ hlt
     dsimp only at hA q0 q1 q2
     subst hA
     obtain⟨ra,rb,rc⟩:=r
     dsimp only at q0 q1 q2
     have HR:=Hz (show C[k]?=some ⟨ra,rb,rc⟩ from hr)
     clear hr hok
     by_cases he:rb=p
     ·have he':(rb==p)=true:=by simpa using he
      have HP:=Hz (show To ⟨fr,A1,n1,c1,P,A2,n2,c2,W,some ⟨b',o,none⟩,n3,c3,C,tr⟩ p k from⟨_,HR.o,he⟩)
      clear he
      go_wp2_with (go_at_call 180;refine (to_any _ _ _ _).mono ?_;rintro e w3 ⟨rfl,hb3⟩;have HX3:=Hz ((HX1.o.alloc _).step hb3);clear hb3)
      go_roundw
      case rel=>exact⟨k+1,_,by omega,by go_num,rfl,Hz (HU.o.yes (by omega) HP.o),HX3⟩
      case measure=>simp [intOf];omega
     ·have he':(rb==p)=false:=by simpa using he
      have HP:=Hz (show ¬To ⟨fr,A1,n1,c1,P,A2,n2,c2,W,some ⟨b',o,none⟩,n3,c3,C,tr⟩ p k from fun⟨r,h1,h2⟩=>by rw [show C[k]?=some r from h1] at HR;have h3:=HR.o;injection h3 with h3;subst h3;exact he h2)
      clear he
      go_wp2_with (go_at_call 180;refine (to_any _ _ _ _).mono ?_;rintro e w3 ⟨rfl,hb3⟩;have HX3:=Hz ((HX1.o.alloc _).step hb3);clear hb3)
      go_roundw
      case rel=>exact⟨k+1,_,by omega,by go_num,rfl,Hz (HU.o.no HP.o),HX3⟩
      case measure=>simp [intOf];omega
    ·obtain rfl:k=n3:=by omega
     go_wp2_with fail
     go_ret
     refine⟨v,rfl,HX1.o.bel,fun h=>?_,fun _=>HU.o.bits fun j ⟨r,h1,_⟩=>?_⟩
     ·refine HU.o.none fun j ⟨r,h1,h2⟩=>h ⟨HRt.o,?_⟩
      have h3:=HRt.o.2.2.2.2.2 j r h1
      have h4:=HLN.o
      dsimp only at h4 h3
      have h5:=h3.2.1
      rw [h4] at h5
      show 0≤p∧p<(n1:Int)
      omega
     ·have:=(List.getElem?_eq_some_iff.1 (show C[j]?=some r from h1)).1
      have:=HLC.o
      omega
end CpaN2
end Go.Proofs.YtpidbddllnidhaaGreatDoor
