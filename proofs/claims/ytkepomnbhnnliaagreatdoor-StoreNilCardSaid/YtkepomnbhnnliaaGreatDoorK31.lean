/- The parts that this claim uses of: StoN5. Conditions: those that each law names. -/
import Derived.Test.YtkepomnbhnnliaaGreatDoorK30
set_option maxRecDepth 100000
set_option maxHeartbeats 12800000
namespace Go.Proofs.YtkepomnbhnnliaaGreatDoor
namespace StoN
open Go.RowKit Kit Byt Mem DskA DskE RecM StgM CmtM StoM StoW
open ImgT (Ig iG)
open ImgU (Gi)
open TabA (Tri Tris Ta)
section
variable {w:World} {R:World→Prop} {d la s0 s1:Nat} {x:Int}
def Lat (w:World) (la:Nat) (r0 r1 r2 r3 r4 r5:Int):Prop:=∀w',Below w.heap.size w w'→Calls Tryz.prog 56 #[.pointer (some ⟨la,0,none⟩)] w' fun e w''=>e=.returned (.agg #[.int .i64 r0,.int .i64 r1,.int .i64 r2,.int .i64 r3,.int .i64 r4,.int .i64 r5])∧Below w'.heap.size w' w''
def Img (w:World) (s0 s1:Nat) (k:Int) (i:Ig):Prop:=∀w',Below w.heap.size w w'→Calls Tryz.prog 72 #[.agg #[.pointer (some ⟨s0,0,none⟩),.pointer (some ⟨s1,0,none⟩)],.int .i64 k] w' (Gi w' i)
theorem size_slots:(Tryz.prog.info? 116).map (·.size)=some 2:=by kernel_rfl
theorem seal_no (zv:Value) (q ses:Int) (hx:x≠0) (h:Sd w zv q ses (fun w'=>No w' x)):Calls Tryz.prog 24 #[zv,.int .i64 q,.int .i64 ses] w (An x (Below w.heap.size w)):=by
 have HU:=Hz (h w (Below.refl _ _))
 clear h
 go_enter Tryz.func24,Tryz.ntmps24
 go_wp2_with (go_at_call 70;refine HU.out.mono ?_;rintro e w1 ⟨rfl,hb1⟩;have L1:=Hz hb1;clear hb1)
 go_ret
 exact⟨rfl,L1.out.alloc L1.out.size _⟩
theorem seal_bytes (zv:Value) (q ses:Int) (r0 r1 a r3 r4 r5:Int) (ha:0≤a∧a≤1) (i:Ig) (hi:i.e≠0) (h:Sd w zv q ses (fun w'=>Is w' d la s0 s1)) (h1:Lat w la r0 r1 a r3 r4 r5) (h2:Img w s0 s1 (1-a) i) :
 Calls Tryz.prog 24 #[zv,.int .i64 q,.int .i64 ses] w (An i.e (Below w.heap.size w)):=by
 have HU:=Hz (h w (Below.refl _ _))
 have H1:=Hz h1
 have H2:=Hz h2
 have HO:=Hz (fun w'=>other_any a ha w')
 obtain⟨y,hy⟩:∃y,y=i.e:=⟨_,rfl⟩
 obtain⟨k,hk⟩:∃k,k=1-a:=⟨_,rfl⟩
 rw [←hk] at H2 HO
 rw [←hy] at hi ⊢
 have HY:=Hz hy
 clear h h1 h2 hy hk
 go_enter Tryz.func24,Tryz.ntmps24
 go_wp2_with (first
  | (go_at_call 70;refine HU.out.mono ?_;rintro e w1 ⟨rfl,hb1⟩;have L1:=Hz (hb1.alloc hb1.size (.cells (pcs d la s0 s1).toArray 118));have X1:=Hz (Blk.new w1 118 (pcs d la s0 s1));clear hb1)
  | (go_at_call 56;refine (H1.out _ L1.out).mono ?_;rintro e w2 ⟨rfl,hb2⟩;have L2:=Hz ((L1.out.trans (hb2.mono L1.out.size)).alloc (L1.out.trans (hb2.mono L1.out.size)).size (.cells #[.int .i64 r0,.int .i64 r1,.int .i64 a,.int .i64 r3,.int .i64 r4,.int .i64 r5] 64));have X2:=Hz ((X1.out.below hb2).alloc (.cells #[.int .i64 r0,.int .i64 r1,.int .i64 a,.int .i64 r3,.int .i64 r4,.int .i64 r5] 64));clear hb2)
  | (go_at_call 71;refine (HO.out _).mono ?_;rintro e w3 ⟨rfl,rfl⟩)
  | (refine wpList_load_part rfl 116 (.tmp 32) rfl w1.heap.size 1 rfl [.pointer (some ⟨s0,0,none⟩),.pointer (some ⟨s1,0,none⟩)] X2.out rfl Tryz.underlying116 rfl size_slots ?_)
  | (go_at_call 72;refine (H2.out _ L2.out).mono ?_;rintro e w4 ⟨B,m,dd,rfl,hR,hb4⟩;rw [←HY.out];have L4:=Hz (L2.out.trans (hb4.mono L2.out.size));clear hb4 hR))
 go_ret
 exact⟨rfl,L4.out.alloc L4.out.size _⟩
theorem seal_check (z pb n pc:Nat) (t:Ta) (q ses:Int) (r0 r1 a r3 r4 r5:Int) (ha:0≤a∧a≤1) (i j:Ig) (hi:i.e=0) (hj:j.e=0) (hz:Blk w z 112 (t.cells++[.slice (some ⟨pb,0,none⟩) n pc])) (h:Sd w (.pointer (some ⟨z,0,none⟩)) q ses (fun w'=>Is w' d la s0 s1)) (h1:Lat w la r0 r1 a r3 r4 r5) (h2:Img w s0 s1 (1-a) i) (h3:Img w s0 s1 a j)
 (h4:∀w',Below w.heap.size w w'→∀B m c,Rd w' B m c (u8n i.xs)→Calls Tryz.prog 73 #[t.val,.int .i64 q,.agg #[.int .i64 i.p,.int .i64 i.v,.int .i64 i.h,.int .i64 i.m,.int .i64 i.f,.int .i64 i.s,.int .i64 i.r,.slice B m c],.int .i64 j.v] w' fun e w''=>e=.returned (.int .i64 x)∧Below w'.heap.size w' w'') (hx:x≠0) :
 Calls Tryz.prog 24 #[.pointer (some ⟨z,0,none⟩),.int .i64 q,.int .i64 ses] w (An x (Below w.heap.size w)):=by
 have HU:=Hz (h w (Below.refl _ _))
 have H1:=Hz h1
 have H2:=Hz h2
 have H3:=Hz h3
 obtain⟨fr,A1,n1,c1,TP,A2,n2,c2,TW,A3,n3,c3,TC,tr⟩:=t
 dsimp only [Ta.val] at h4
 have H4:=Hz h4
 have HZ:=Hz hz
 have HO:=Hz (fun w'=>other_any a ha w')
 have HIJ:=Hz (And.intro hi hj)
 obtain⟨k,hk⟩:∃k,k=1-a:=⟨_,rfl⟩
 rw [←hk] at H2 HO
 have HK:=Hz hk
 clear h h1 h2 h3 h4 hz hi hj hk
 go_enter Tryz.func24,Tryz.ntmps24
 go_wp2_with (first
  | (go_at_call 70;refine HU.out.mono ?_;rintro e w1 ⟨rfl,hb1⟩;have L1:=Hz (hb1.alloc hb1.size (.cells (pcs d la s0 s1).toArray 118));have X1:=Hz (Blk.new w1 118 (pcs d la s0 s1));clear hb1)
  | (go_at_call 56;refine (H1.out _ L1.out).mono ?_;rintro e w2 ⟨rfl,hb2⟩;have L2a:=L1.out.trans (hb2.mono L1.out.size);have L2:=Hz (L2a.alloc L2a.size (.cells #[.int .i64 r0,.int .i64 r1,.int .i64 a,.int .i64 r3,.int .i64 r4,.int .i64 r5] 64));have X2:=Hz ((X1.out.below hb2).alloc (.cells #[.int .i64 r0,.int .i64 r1,.int .i64 a,.int .i64 r3,.int .i64 r4,.int .i64 r5] 64));have R2:=Hz (Blk.new w2 64 [.int .i64 r0,.int .i64 r1,.int .i64 a,.int .i64 r3,.int .i64 r4,.int .i64 r5]);clear hb2 L2a)
  | (go_at_call 71;refine (HO.out _).mono ?_;rintro e w3 ⟨rfl,rfl⟩)
  | (have hq:=L4;clear hq;refine wpList_load_part rfl 116 (.tmp 42) rfl w1.heap.size 1 rfl [.pointer (some ⟨s0,0,none⟩),.pointer (some ⟨s1,0,none⟩)] X4.out rfl Tryz.underlying116 rfl size_slots ?_)
  | (refine wpList_load_part rfl 116 (.tmp 32) rfl w1.heap.size 1 rfl [.pointer (some ⟨s0,0,none⟩),.pointer (some ⟨s1,0,none⟩)] X2.out rfl Tryz.underlying116 rfl size_slots ?_)
  | (have hq:=L4;clear hq;go_at_call 72;refine (H3.out _ L4.out).mono ?_;rintro e w6 ⟨B6,m6,d6,rfl,hR,hb6⟩;rw [HIJ.out.2];have L6a:=L4.out.trans (hb6.mono L4.out.size);have L6:=Hz (L6a.alloc L6a.size (.cells #[.int .i64 j.p,.int .i64 j.v,.int .i64 j.h,.int .i64 j.m,.int .i64 j.f,.int .i64 j.s,.int .i64 j.r,.slice B6 m6 d6] 54));have X6:=Hz ((X4.out.below hb6).alloc (.cells #[.int .i64 j.p,.int .i64 j.v,.int .i64 j.h,.int .i64 j.m,.int .i64 j.f,.int .i64 j.s,.int .i64 j.r,.slice B6 m6 d6] 54));have R6:=Hz ((R4.out.below hb6).alloc (.cells #[.int .i64 j.p,.int .i64 j.v,.int .i64 j.h,.int .i64 j.m,.int .i64 j.f,.int .i64 j.s,.int .i64 j.r,.slice B6 m6 d6] 54));have I6:=Hz ((I4.out.below hb6).alloc (.cells #[.int .i64 j.p,.int .i64 j.v,.int .i64 j.h,.int .i64 j.m,.int .i64 j.f,.int .i64 j.s,.int .i64 j.r,.slice B6 m6 d6] 54));have HR6:=Hz ((HR4.out.below hb6).below ((Below.refl _ _).alloc (Nat.le_refl _) (.cells #[.int .i64 j.p,.int .i64 j.v,.int .i64 j.h,.int .i64 j.m,.int .i64 j.f,.int .i64 j.s,.int .i64 j.r,.slice B6 m6 d6] 54)));have K6:=Hz (Blk.new w6 54 [.int .i64 j.p,.int .i64 j.v,.int .i64 j.h,.int .i64 j.m,.int .i64 j.f,.int .i64 j.s,.int .i64 j.r,.slice B6 m6 d6]);clear hb6 hR L6a)
  | (go_at_call 72;refine (H2.out _ L2.out).mono ?_;rintro e w4 ⟨B4,m4,d4,rfl,hR,hb4⟩;rw [HIJ.out.1];have L4a:=L2.out.trans (hb4.mono L2.out.size);have L4:=Hz (L4a.alloc L4a.size (.cells #[.int .i64 i.p,.int .i64 i.v,.int .i64 i.h,.int .i64 i.m,.int .i64 i.f,.int .i64 i.s,.int .i64 i.r,.slice B4 m4 d4] 54));have X4:=Hz ((X2.out.below hb4).alloc (.cells #[.int .i64 i.p,.int .i64 i.v,.int .i64 i.h,.int .i64 i.m,.int .i64 i.f,.int .i64 i.s,.int .i64 i.r,.slice B4 m4 d4] 54));have R4:=Hz ((R2.out.below hb4).alloc (.cells #[.int .i64 i.p,.int .i64 i.v,.int .i64 i.h,.int .i64 i.m,.int .i64 i.f,.int .i64 i.s,.int .i64 i.r,.slice B4 m4 d4] 54));have e2:=R4.out.cell (i:=2) rfl;have I4:=Hz (Blk.new w4 54 [.int .i64 i.p,.int .i64 i.v,.int .i64 i.h,.int .i64 i.m,.int .i64 i.f,.int .i64 i.s,.int .i64 i.r,.slice B4 m4 d4]);have HR4:=Hz (hR.below ((Below.refl _ _).alloc (Nat.le_refl _) (.cells #[.int .i64 i.p,.int .i64 i.v,.int .i64 i.h,.int .i64 i.m,.int .i64 i.f,.int .i64 i.s,.int .i64 i.r,.slice B4 m4 d4] 54)));clear hb4 hR L4a))
 clear e2
 obtain⟨wB,hwB⟩:∃wB,wB=w6.alloc (.cells #[.int .i64 j.p,.int .i64 j.v,.int .i64 j.h,.int .i64 j.m,.int .i64 j.f,.int .i64 j.s,.int .i64 j.r,.slice B6 m6 d6] 54):=⟨_,rfl⟩
 obtain⟨xi,hxi⟩:∃xi,xi=w4.heap.size:=⟨_,rfl⟩
 obtain⟨xj,hxj⟩:∃xj,xj=w6.heap.size:=⟨_,rfl⟩
 obtain⟨xp,hxp⟩:∃xp,xp=w1.heap.size:=⟨_,rfl⟩
 obtain⟨xr,hxr⟩:∃xr,xr=w2.heap.size:=⟨_,rfl⟩
 rw [←hwB] at L6 X6 R6 I6 HR6 K6 ⊢
 rw [←hxi] at I6 ⊢
 rw [←hxj] at K6 ⊢
 rw [←hxp] at X6 ⊢
 rw [←hxr] at R6 ⊢
 clear hwB hxi hxj hxp hxr
 have Z6:=Hz (HZ.out.below L6.out)
 have z0:=Z6.out.cell (i:=0) rfl
 have z1:=Z6.out.cell (i:=1) rfl
 have z2:=Z6.out.cell (i:=2) rfl
 have z3:=Z6.out.cell (i:=3) rfl
 have z4:=Z6.out.cell (i:=4) rfl
 have i0:=I6.out.cell (i:=0) rfl
 have i1:=I6.out.cell (i:=1) rfl
 have i2:=I6.out.cell (i:=2) rfl
 have i3:=I6.out.cell (i:=3) rfl
 have i4:=I6.out.cell (i:=4) rfl
 have i5:=I6.out.cell (i:=5) rfl
 have i6:=I6.out.cell (i:=6) rfl
 have i7:=I6.out.cell (i:=7) rfl
 have j1:=K6.out.cell (i:=1) rfl
 have H4b:=Hz (H4.out wB.drew ((L6.out).drew) B4 m4 d4 HR6.out)
 have L6d:=Hz (L6.out.drew)
 go_still_tail 8,(by kernel_rfl)
 repeat still_step
 change wpList _ _ _ _ _ wB.drew
 go_wp2_with (go_at_call 73;refine H4b.out.mono ?_;rintro e w7 ⟨rfl,hb7⟩;have L7:=Hz (L6d.out.trans (hb7.mono L6d.out.size));clear hb7)
 go_ret
 exact⟨rfl,L7.out⟩
theorem seal_go (z pb n pc:Nat) (t:Ta) (q ses:Int) (r0 r1 a r3 r4 r5:Int) (ha:0≤a∧a≤1) (i j:Ig) (hi:i.e=0) (hj:j.e=0) (hz:Blk w z 112 (t.cells++[.slice (some ⟨pb,0,none⟩) n pc])) (h:Sd w (.pointer (some ⟨z,0,none⟩)) q ses (fun w'=>Is w' d la s0 s1)) (h1:Lat w la r0 r1 a r3 r4 r5) (h2:Img w s0 s1 (1-a) i) (h3:Img w s0 s1 a j)
 (h4:∀w',Below w.heap.size w w'→∀B m c,Rd w' B m c (u8n i.xs)→Calls Tryz.prog 73 #[t.val,.int .i64 q,.agg #[.int .i64 i.p,.int .i64 i.v,.int .i64 i.h,.int .i64 i.m,.int .i64 i.f,.int .i64 i.s,.int .i64 i.r,.slice B m c],.int .i64 j.v] w' fun e w''=>e=.returned (.int .i64 0)∧Below w'.heap.size w' w'')
 (h5:∀w',Below w.heap.size w w'→Calls Tryz.prog 74 #[pval d la s0 s1,.int .i64 (1-a)] w' fun e w''=>e=.returned (.int .i64 0)∧Below w'.heap.size w' w'')
 (h6:∀w',Below w.heap.size w w'→Calls Tryz.prog 75 #[.pointer (some ⟨la,0,none⟩),.agg #[.int .i64 0,.int .i64 0,.int .i64 (1-a),.int .i64 r3,.int .i64 t.tr,.int .i64 0]] w' (An x R)) :
 Calls Tryz.prog 24 #[.pointer (some ⟨z,0,none⟩),.int .i64 q,.int .i64 ses] w (An x R):=by
 have HU:=Hz (h w (Below.refl _ _))
 have H1:=Hz h1
 have H2:=Hz h2
 have H3:=Hz h3
 obtain⟨fr,A1,n1,c1,TP,A2,n2,c2,TW,A3,n3,c3,TC,tr⟩:=t
 dsimp only [Ta.val] at h4
 have H4:=Hz h4
 have H5:=Hz h5
 have H6:=Hz h6
 have HZ:=Hz hz
 have HO:=Hz (fun w'=>other_any a ha w')
 have HIJ:=Hz (And.intro hi hj)
 obtain⟨k,hk⟩:∃k,k=1-a:=⟨_,rfl⟩
 rw [←hk] at H2 HO H5 H6
 have HK:=Hz hk
 clear h h1 h2 h3 h4 hz hi hj hk h5 h6
 go_enter Tryz.func24,Tryz.ntmps24
 go_wp2_with (first
  | (go_at_call 70;refine HU.out.mono ?_;rintro e w1 ⟨rfl,hb1⟩;have L1:=Hz (hb1.alloc hb1.size (.cells (pcs d la s0 s1).toArray 118));have X1:=Hz (Blk.new w1 118 (pcs d la s0 s1));clear hb1)
  | (go_at_call 56;refine (H1.out _ L1.out).mono ?_;rintro e w2 ⟨rfl,hb2⟩;have L2a:=L1.out.trans (hb2.mono L1.out.size);have L2:=Hz (L2a.alloc L2a.size (.cells #[.int .i64 r0,.int .i64 r1,.int .i64 a,.int .i64 r3,.int .i64 r4,.int .i64 r5] 64));have X2:=Hz ((X1.out.below hb2).alloc (.cells #[.int .i64 r0,.int .i64 r1,.int .i64 a,.int .i64 r3,.int .i64 r4,.int .i64 r5] 64));have R2:=Hz (Blk.new w2 64 [.int .i64 r0,.int .i64 r1,.int .i64 a,.int .i64 r3,.int .i64 r4,.int .i64 r5]);clear hb2 L2a)
  | (go_at_call 71;refine (HO.out _).mono ?_;rintro e w3 ⟨rfl,rfl⟩)
  | (have hq:=L4;clear hq;refine wpList_load_part rfl 116 (.tmp 42) rfl w1.heap.size 1 rfl [.pointer (some ⟨s0,0,none⟩),.pointer (some ⟨s1,0,none⟩)] X4.out rfl Tryz.underlying116 rfl size_slots ?_)
  | (refine wpList_load_part rfl 116 (.tmp 32) rfl w1.heap.size 1 rfl [.pointer (some ⟨s0,0,none⟩),.pointer (some ⟨s1,0,none⟩)] X2.out rfl Tryz.underlying116 rfl size_slots ?_)
  | (have hq:=L4;clear hq;go_at_call 72;refine (H3.out _ L4.out).mono ?_;rintro e w6 ⟨B6,m6,d6,rfl,hR,hb6⟩;rw [HIJ.out.2];have L6a:=L4.out.trans (hb6.mono L4.out.size);have L6:=Hz (L6a.alloc L6a.size (.cells #[.int .i64 j.p,.int .i64 j.v,.int .i64 j.h,.int .i64 j.m,.int .i64 j.f,.int .i64 j.s,.int .i64 j.r,.slice B6 m6 d6] 54));have X6:=Hz ((X4.out.below hb6).alloc (.cells #[.int .i64 j.p,.int .i64 j.v,.int .i64 j.h,.int .i64 j.m,.int .i64 j.f,.int .i64 j.s,.int .i64 j.r,.slice B6 m6 d6] 54));have R6:=Hz ((R4.out.below hb6).alloc (.cells #[.int .i64 j.p,.int .i64 j.v,.int .i64 j.h,.int .i64 j.m,.int .i64 j.f,.int .i64 j.s,.int .i64 j.r,.slice B6 m6 d6] 54));have I6:=Hz ((I4.out.below hb6).alloc (.cells #[.int .i64 j.p,.int .i64 j.v,.int .i64 j.h,.int .i64 j.m,.int .i64 j.f,.int .i64 j.s,.int .i64 j.r,.slice B6 m6 d6] 54));have HR6:=Hz ((HR4.out.below hb6).below ((Below.refl _ _).alloc (Nat.le_refl _) (.cells #[.int .i64 j.p,.int .i64 j.v,.int .i64 j.h,.int .i64 j.m,.int .i64 j.f,.int .i64 j.s,.int .i64 j.r,.slice B6 m6 d6] 54)));have K6:=Hz (Blk.new w6 54 [.int .i64 j.p,.int .i64 j.v,.int .i64 j.h,.int .i64 j.m,.int .i64 j.f,.int .i64 j.s,.int .i64 j.r,.slice B6 m6 d6]);clear hb6 hR L6a)
  | (go_at_call 72;refine (H2.out _ L2.out).mono ?_;rintro e w4 ⟨B4,m4,d4,rfl,hR,hb4⟩;rw [HIJ.out.1];have L4a:=L2.out.trans (hb4.mono L2.out.size);have L4:=Hz (L4a.alloc L4a.size (.cells #[.int .i64 i.p,.int .i64 i.v,.int .i64 i.h,.int .i64 i.m,.int .i64 i.f,.int .i64 i.s,.int .i64 i.r,.slice B4 m4 d4] 54));have X4:=Hz ((X2.out.below hb4).alloc (.cells #[.int .i64 i.p,.int .i64 i.v,.int .i64 i.h,.int .i64 i.m,.int .i64 i.f,.int .i64 i.s,.int .i64 i.r,.slice B4 m4 d4] 54));have R4:=Hz ((R2.out.below hb4).alloc (.cells #[.int .i64 i.p,.int .i64 i.v,.int .i64 i.h,.int .i64 i.m,.int .i64 i.f,.int .i64 i.s,.int .i64 i.r,.slice B4 m4 d4] 54));have e2:=R4.out.cell (i:=2) rfl;have I4:=Hz (Blk.new w4 54 [.int .i64 i.p,.int .i64 i.v,.int .i64 i.h,.int .i64 i.m,.int .i64 i.f,.int .i64 i.s,.int .i64 i.r,.slice B4 m4 d4]);have HR4:=Hz (hR.below ((Below.refl _ _).alloc (Nat.le_refl _) (.cells #[.int .i64 i.p,.int .i64 i.v,.int .i64 i.h,.int .i64 i.m,.int .i64 i.f,.int .i64 i.s,.int .i64 i.r,.slice B4 m4 d4] 54)));clear hb4 hR L4a))
 clear e2
 obtain⟨wB,hwB⟩:∃wB,wB=w6.alloc (.cells #[.int .i64 j.p,.int .i64 j.v,.int .i64 j.h,.int .i64 j.m,.int .i64 j.f,.int .i64 j.s,.int .i64 j.r,.slice B6 m6 d6] 54):=⟨_,rfl⟩
 obtain⟨xi,hxi⟩:∃xi,xi=w4.heap.size:=⟨_,rfl⟩
 obtain⟨xj,hxj⟩:∃xj,xj=w6.heap.size:=⟨_,rfl⟩
 obtain⟨xp,hxp⟩:∃xp,xp=w1.heap.size:=⟨_,rfl⟩
 obtain⟨xr,hxr⟩:∃xr,xr=w2.heap.size:=⟨_,rfl⟩
 rw [←hwB] at L6 X6 R6 I6 HR6 K6 ⊢
 rw [←hxi] at I6 ⊢
 rw [←hxj] at K6 ⊢
 rw [←hxp] at X6 ⊢
 rw [←hxr] at R6 ⊢
 clear hwB hxi hxj hxp hxr
 have Z6:=Hz (HZ.out.below L6.out)
 have z0:=Z6.out.cell (i:=0) rfl
 have z1:=Z6.out.cell (i:=1) rfl
 have z2:=Z6.out.cell (i:=2) rfl
 have z3:=Z6.out.cell (i:=3) rfl
 have z4:=Z6.out.cell (i:=4) rfl
 have i0:=I6.out.cell (i:=0) rfl
 have i1:=I6.out.cell (i:=1) rfl
 have i2:=I6.out.cell (i:=2) rfl
 have i3:=I6.out.cell (i:=3) rfl
 have i4:=I6.out.cell (i:=4) rfl
 have i5:=I6.out.cell (i:=5) rfl
 have i6:=I6.out.cell (i:=6) rfl
 have i7:=I6.out.cell (i:=7) rfl
 have j1:=K6.out.cell (i:=1) rfl
 have H4b:=Hz (H4.out wB.drew ((L6.out).drew) B4 m4 d4 HR6.out)
 have L6d:=Hz (L6.out.drew)
 go_still_tail 8,(by kernel_rfl)
 repeat still_step
 change wpList _ _ _ _ _ wB.drew
 go_wp2_with (first
  | (go_at_call 73;refine H4b.out.mono ?_;rintro e w7 ⟨rfl,hb7⟩;have L7:=Hz (L6d.out.trans (hb7.mono L6d.out.size));have X7:=Hz (X6.out.below (((Below.refl wB.heap.size wB).drew).trans hb7));have R7:=Hz (R6.out.below (((Below.refl wB.heap.size wB).drew).trans hb7));clear hb7)
  | (refine wpList_load_blk rfl 118 (.tmp 7) rfl xp rfl X7.out Tryz.underlying118 rfl size_part ?_)
  | (go_at_call 74;refine (H5.out _ L7.out).mono ?_;rintro e w8 ⟨rfl,hb8⟩;have L8:=Hz (L7.out.trans (hb8.mono L7.out.size));have X8:=Hz (X7.out.below hb8);have R8:=Hz (R7.out.below hb8);clear hb8))
 clear z0 z1 z2 z3 z4 i0 i1 i2 i3 i4 i5 i6 i7 j1
 have Z8:=Hz (HZ.out.below L8.out)
 have z4:=Z8.out.cell (i:=4) rfl
 have x0:=X8.out.cell (i:=0) rfl
 have y3:=R8.out.cell (i:=3) rfl
 have L8d:=Hz L8.out.drew
 go_still_tail 11,(by kernel_rfl)
 repeat still_step
 change wpList _ _ _ _ _ w8.drew
 go_wp2_with (go_at_call 75;refine (H6.out _ L8d.out).mono ?_;rintro e w9 ⟨rfl,hr9⟩;have HR9:=Hz hr9;clear hr9)
 go_ret
 exact⟨rfl,HR9.out⟩
end
end StoN
end Go.Proofs.YtkepomnbhnnliaaGreatDoor
