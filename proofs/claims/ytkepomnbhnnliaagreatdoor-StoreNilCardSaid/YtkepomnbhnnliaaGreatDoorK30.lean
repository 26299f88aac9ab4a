/- The parts that this claim uses of: StoN2 · CmtDn · StoN3 · StoN4. Conditions: those that each law names. -/
import Derived.Test.YtkepomnbhnnliaaGreatDoorK29
set_option maxRecDepth 100000
set_option maxHeartbeats 12800000
namespace Go.Proofs.YtkepomnbhnnliaaGreatDoor
namespace StoN
open Go.RowKit Kit Byt Mem DskA DskE RecM StgM CmtM StoM StoW
open RecA (rval rcells rok sval scells sok)
open StgN (Sm DS Sgo)
open CmtN (Lm LS Lgo)
open TabA (Tri Tris Ta)
theorem size_part:(Tryz.prog.info? 118).map (·.size)=some 4:=by kernel_rfl
theorem one_pcs (g la s0 s1:Nat):∀u ∈ pcs g la s0 s1,u.oneCell'=true:=by intro u hu;simp [pcs] at hu;rcases hu with rfl|rfl|rfl|rfl <;> rfl
def pzs:List Value:=[.pointer none,.pointer none,.pointer none,.pointer none]
theorem one_pzs:∀u ∈ pzs,u.oneCell'=true:=by intro u hu;simp [pzs] at hu;subst hu;rfl
section
variable {w:World} {ζ:Nat→Zl} {g n p:Nat} {t:Ta} {P:Nat→Pt} {Z:Lo}
theorem at_nil (q:Int) (w:World):Calls Tryz.prog 76 #[.pointer none,.int .i64 q] w fun e w'=>e=.returned (.tuple #[pzero,.int .i64 7])∧Below w.heap.size w w':=by
 go_enter Tryz.func76,Tryz.ntmps76
 go_wp2
 refine bodyPost_ret (v:=.tuple #[pzero,.int .i64 7]) (by simp [results,Tryz.results76,go_sem]) rfl ?_
 exact⟨rfl,(Below.refl _ _).alloc (Nat.le_refl _) _⟩
theorem at_no (h:Zm w ζ g t n P Z) (q:Int) (hq:q<0∨(n:Int)≤q):Calls Tryz.prog 76 #[.pointer (some ⟨Z.z,0,none⟩),.int .i64 q] w fun e w'=>e=.returned (.tuple #[pzero,.int .i64 3])∧Below w.heap.size w w':=by
 obtain⟨_,_,_,_,_,c5⟩:=h.tcells
 have hn:=h.n4
 have hzl:=h.head.lt
 have hnc:=hn.2.2.2
 have hn4:=hn.2.1
 clear h hn
 by_cases h0:q<0
 ·go_enter Tryz.func76,Tryz.ntmps76
  go_wp2
  refine bodyPost_ret (v:=.tuple #[pzero,.int .i64 3]) (by simp [results,Tryz.results76,go_sem]) rfl ?_
  exact⟨rfl,(Below.refl _ _).alloc (Nat.le_refl _) _⟩
 ·have h1:(n:Int)≤q:=by omega
  clear hq
  go_enter Tryz.func76,Tryz.ntmps76
  go_wp2
  refine bodyPost_ret (v:=.tuple #[pzero,.int .i64 3]) (by simp [results,Tryz.results76,go_sem]) rfl ?_
  exact⟨rfl,(Below.refl _ _).alloc (Nat.le_refl _) _⟩
theorem at_yes (h:Zm w ζ g t n P Z) (hp:p<n):Calls Tryz.prog 76 #[.pointer (some ⟨Z.z,0,none⟩),.int .i64 (p:Nat)] w fun e w'=>e=.returned (.tuple #[pval g (Z.la p) (Z.sa p 0) (Z.sa p 1),.int .i64 0])∧Below w.heap.size w w':=by
 obtain⟨_,_,_,_,_,c5⟩:=h.tcells
 have hn:=h.n4
 have hzl:=h.head.lt
 have hbl:=h.list.lt
 have HL:=Hz (h.list.alloc (.cells pzs.toArray 118))
 have HO:=Hz (h.own p hp).2
 have hnc:=hn.2.2.2
 have hn4:=hn.2.1
 obtain⟨la,hla⟩:∃la,la=Z.la p:=⟨_,rfl⟩
 obtain⟨s0,hs0⟩:∃s0,s0=Z.sa p 0:=⟨_,rfl⟩
 obtain⟨s1,hs1⟩:∃s1,s1=Z.sa p 1:=⟨_,rfl⟩
 rw [←hla,←hs0,←hs1] at HO ⊢
 obtain⟨z,hz⟩:∃z,z=Z.z:=⟨_,rfl⟩
 obtain⟨pb,hpb⟩:∃pb,pb=Z.pb:=⟨_,rfl⟩
 obtain⟨pc,hpc⟩:∃pc,pc=Z.pc:=⟨_,rfl⟩
 rw [←hz] at c5 hzl ⊢
 rw [←hpb] at c5 hbl HL
 rw [←hpc] at c5 hnc
 have hnp:=hn.2.2.1
 rw [←hpc] at hnp
 clear h hn hla hs0 hs1 hz hpb hpc
 go_enter Tryz.func76,Tryz.ntmps76
 go_wp2_with (refine wpList_load_part rfl 118 (.tmp 28) rfl pb (p*4) rfl [.pointer (some ⟨la,0,none⟩),.pointer (some ⟨s0,0,none⟩),.pointer (some ⟨s1,0,none⟩),.pointer (some ⟨g,0,none⟩)] HL.out HO.out Tryz.underlying118 rfl size_part ?_)
 refine bodyPost_ret (v:=.tuple #[pval g la s0 s1,.int .i64 0]) (by simp [results,Tryz.results76,go_sem]) rfl ?_
 exact⟨rfl,(Below.refl _ _).alloc (Nat.le_refl _) _⟩
end
section
variable {w:World} {ζ:Nat→Zl} {g n p:Nat} {t:Ta} {P:Nat→Pt} {Z:Lo}
def No (w:World) (x:Int) (e:Ending) (w':World):Prop:=e=.returned (.tuple #[pzero,.int .i64 x])∧Below w.heap.size w w'
def Is (w:World) (g la s0 s1:Nat) (e:Ending) (w':World):Prop:=e=.returned (.tuple #[pval g la s0 s1,.int .i64 0])∧Below w.heap.size w w'
theorem untried_of (zv:Value) (q x:Int) (hx:x≠0) (H:∀w',Below w.heap.size w w'→Calls Tryz.prog 76 #[zv,.int .i64 q] w' (No w' x)) :
 Calls Tryz.prog 64 #[zv,.int .i64 q] w (No w x):=by
 have HA:=Hz H
 have L0:=Hz (show Below w.heap.size w (w.alloc (.cells pzs.toArray 118)) from (Below.refl _ _).alloc (Nat.le_refl _) _)
 have B0:=Hz (Blk.new w 118 pzs)
 clear H
 go_enter Tryz.func64,Tryz.ntmps64
 go_wp2_with (first
  | (go_at_call 76;refine (HA.out _ L0.out).mono ?_;rintro e w1 ⟨rfl,hb1⟩;have L1:=Hz (L0.out.trans (hb1.mono L0.out.size));have B1:=Hz (B0.out.below hb1);have B2:=Hz (B1.out.alloc (.cells pzs.toArray 118));clear hb1)
  | (refine wpList_store_blk rfl 118 (.tmp 4) (.tmp 17) rfl w.heap.size rfl pzs rfl B2.out rfl size_part one_pzs ?_;intro w5 hB5 ho5))
 have q0:=hB5.out.cell (i:=0) rfl
 have q1:=hB5.out.cell (i:=1) rfl
 have q2:=hB5.out.cell (i:=2) rfl
 have q3:=hB5.out.cell (i:=3) rfl
 refine bodyPost_ret (v:=.tuple #[pzero,.int .i64 x]) (by simp [results,Tryz.results64,go_sem,q0,q1,q2,q3]) rfl ?_
 exact⟨rfl,ho5.out.below (L1.out.alloc L1.out.size _) (Nat.le_refl _) (by have:=L1.out.size;rw [World.size_alloc];omega)⟩
theorem untried_trial (zv:Value) (q:Int) (d la s0 s1:Nat) (H:∀w',Below w.heap.size w w'→Calls Tryz.prog 76 #[zv,.int .i64 q] w' (Is w' d la s0 s1))
 (H2:∀w',Below w.heap.size w w'→Calls Tryz.prog 78 #[pval d la s0 s1] w' fun e w''=>e=.returned (.bool true)∧Below w'.heap.size w' w'') :
 Calls Tryz.prog 64 #[zv,.int .i64 q] w (No w 18):=by
 have HA:=Hz H
 have HT:=Hz H2
 have L0:=Hz (show Below w.heap.size w (w.alloc (.cells pzs.toArray 118)) from (Below.refl _ _).alloc (Nat.le_refl _) _)
 have B0:=Hz (Blk.new w 118 pzs)
 clear H H2
 go_enter Tryz.func64,Tryz.ntmps64
 go_wp2_with (first
  | (go_at_call 76;refine (HA.out _ L0.out).mono ?_;rintro e w1 ⟨rfl,hb1⟩;have L1:=Hz (L0.out.trans (hb1.mono L0.out.size));have B1:=Hz (B0.out.below hb1);have L2:=Hz (L1.out.alloc L1.out.size (.cells (pcs d la s0 s1).toArray 118));have B2:=Hz (B1.out.alloc (.cells (pcs d la s0 s1).toArray 118));have X2:=Hz (Blk.new w1 118 (pcs d la s0 s1));clear hb1)
  | (go_at_call 78;refine (HT.out _ L2.out).mono ?_;rintro e w3 ⟨rfl,hb3⟩;have L3:=Hz (L2.out.trans (hb3.mono L2.out.size));have B3:=Hz (B2.out.below hb3);have X3:=Hz (X2.out.below hb3);clear hb3)
  | (refine wpList_load_blk rfl 118 (.tmp 6) rfl w1.heap.size rfl X3.out Tryz.underlying118 rfl size_part ?_)
  | (refine wpList_store_blk rfl 118 (.tmp 4) (.tmp 22) rfl w.heap.size rfl pzs rfl B3.out rfl size_part one_pzs ?_;intro w5 hB5 ho5))
 have q0:=hB5.out.cell (i:=0) rfl
 have q1:=hB5.out.cell (i:=1) rfl
 have q2:=hB5.out.cell (i:=2) rfl
 have q3:=hB5.out.cell (i:=3) rfl
 refine bodyPost_ret (v:=.tuple #[pzero,.int .i64 18]) (by simp [results,Tryz.results64,go_sem,q0,q1,q2,q3]) rfl ?_
 exact⟨rfl,ho5.out.below L3.out (Nat.le_refl _) L3.out.size⟩
theorem untried_ok (zv:Value) (q:Int) (d la s0 s1:Nat) (H:∀w',Below w.heap.size w w'→Calls Tryz.prog 76 #[zv,.int .i64 q] w' (Is w' d la s0 s1))
 (H2:∀w',Below w.heap.size w w'→Calls Tryz.prog 78 #[pval d la s0 s1] w' fun e w''=>e=.returned (.bool false)∧Below w'.heap.size w' w'') :
 Calls Tryz.prog 64 #[zv,.int .i64 q] w (Is w d la s0 s1):=by
 have HA:=Hz H
 have HT:=Hz H2
 have L0:=Hz (show Below w.heap.size w (w.alloc (.cells pzs.toArray 118)) from (Below.refl _ _).alloc (Nat.le_refl _) _)
 have B0:=Hz (Blk.new w 118 pzs)
 clear H H2
 go_enter Tryz.func64,Tryz.ntmps64
 go_wp2_with (first
  | (go_at_call 76;refine (HA.out _ L0.out).mono ?_;rintro e w1 ⟨rfl,hb1⟩;have L1:=Hz (L0.out.trans (hb1.mono L0.out.size));have B1:=Hz (B0.out.below hb1);have L2:=Hz (L1.out.alloc L1.out.size (.cells (pcs d la s0 s1).toArray 118));have B2:=Hz (B1.out.alloc (.cells (pcs d la s0 s1).toArray 118));have X2:=Hz (Blk.new w1 118 (pcs d la s0 s1));clear hb1)
  | (go_at_call 78;refine (HT.out _ L2.out).mono ?_;rintro e w3 ⟨rfl,hb3⟩;have L3:=Hz (L2.out.trans (hb3.mono L2.out.size));have B3:=Hz (B2.out.below hb3);have X3:=Hz (X2.out.below hb3);clear hb3)
  | (refine wpList_load_blk rfl 118 (.tmp 6) rfl w1.heap.size rfl X3.out Tryz.underlying118 rfl size_part ?_)
  | (refine wpList_store_blk rfl 118 (.tmp 4) (.tmp 23) rfl w.heap.size rfl (pcs d la s0 s1) rfl B3.out rfl size_part (one_pcs _ _ _ _) ?_;intro w5 hB5 ho5))
 have q0:=hB5.out.cell (i:=0) rfl
 have q1:=hB5.out.cell (i:=1) rfl
 have q2:=hB5.out.cell (i:=2) rfl
 have q3:=hB5.out.cell (i:=3) rfl
 refine bodyPost_ret (v:=.tuple #[pval d la s0 s1,.int .i64 0]) (by simp [results,Tryz.results64,go_sem,q0,q1,q2,q3]) rfl ?_
 exact⟨rfl,ho5.out.below L3.out (Nat.le_refl _) L3.out.size⟩
theorem size_stage3:(Tryz.prog.info? 80).map (·.size)=some 3:=by kernel_rfl
theorem staged_no (zv:Value) (q ses x:Int) (hx:x≠0) (H:∀w',Below w.heap.size w w'→Calls Tryz.prog 64 #[zv,.int .i64 q] w' (No w' x)) :
 Calls Tryz.prog 70 #[zv,.int .i64 q,.int .i64 ses] w (No w x):=by
 have HA:=Hz H
 have L0:=Hz (show Below w.heap.size w (w.alloc (.cells pzs.toArray 118)) from (Below.refl _ _).alloc (Nat.le_refl _) _)
 have B0:=Hz (Blk.new w 118 pzs)
 clear H
 go_enter Tryz.func70,Tryz.ntmps70
 go_wp2_with (first
  | (go_at_call 64;refine (HA.out _ L0.out).mono ?_;rintro e w1 ⟨rfl,hb1⟩;have L1:=Hz (L0.out.trans (hb1.mono L0.out.size));have B1:=Hz (B0.out.below hb1);have B2:=Hz (B1.out.alloc (.cells pzs.toArray 118));clear hb1)
  | (refine wpList_store_blk rfl 118 (.tmp 6) (.tmp 20) rfl w.heap.size rfl pzs rfl B2.out rfl size_part one_pzs ?_;intro w5 hB5 ho5))
 have q0:=hB5.out.cell (i:=0) rfl
 have q1:=hB5.out.cell (i:=1) rfl
 have q2:=hB5.out.cell (i:=2) rfl
 have q3:=hB5.out.cell (i:=3) rfl
 refine bodyPost_ret (v:=.tuple #[pzero,.int .i64 x]) (by simp [results,Tryz.results70,go_sem,q0,q1,q2,q3]) rfl ?_
 exact⟨rfl,ho5.out.below (L1.out.alloc L1.out.size _) (Nat.le_refl _) (by have:=L1.out.size;rw [World.size_alloc];omega)⟩
theorem staged_16 (zv:Value) (q ses gs gz gh:Int) (d la s0 s1 y:Nat) (H:∀w',Below w.heap.size w w'→Calls Tryz.prog 64 #[zv,.int .i64 q] w' (Is w' d la s0 s1))
 (H2:∀w',Below w.heap.size w w'→Calls Tryz.prog 67 #[pval d la s0 s1] w' fun e w''=>e=.returned (.pointer (some ⟨y,0,none⟩))∧Below w'.heap.size w' w'')
 (H3:∀w',Below w.heap.size w w'→Calls Tryz.prog 88 #[.pointer (some ⟨y,0,none⟩)] w' fun e w''=>e=.returned (.tuple #[.agg #[.int .i64 gs,.int .i64 gz,.int .i64 gh],.bool false])∧Below w'.heap.size w' w'') :
 Calls Tryz.prog 70 #[zv,.int .i64 q,.int .i64 ses] w (No w 16):=by
 have HA:=Hz H
 have HT:=Hz H2
 have HS:=Hz H3
 have L0:=Hz (show Below w.heap.size w (w.alloc (.cells pzs.toArray 118)) from (Below.refl _ _).alloc (Nat.le_refl _) _)
 have B0:=Hz (Blk.new w 118 pzs)
 clear H H2 H3
 go_enter Tryz.func70,Tryz.ntmps70
 go_wp2_with (first
  | (go_at_call 64;refine (HA.out _ L0.out).mono ?_;rintro e w1 ⟨rfl,hb1⟩;have L1:=Hz (L0.out.trans (hb1.mono L0.out.size));have B1:=Hz (B0.out.below hb1);have L2:=Hz (L1.out.alloc L1.out.size (.cells (pcs d la s0 s1).toArray 118));have B2:=Hz (B1.out.alloc (.cells (pcs d la s0 s1).toArray 118));have X2:=Hz (Blk.new w1 118 (pcs d la s0 s1));clear hb1)
  | (go_at_call 67;refine (HT.out _ L2.out).mono ?_;rintro e w3 ⟨rfl,hb3⟩;have L3:=Hz (L2.out.trans (hb3.mono L2.out.size));have B3:=Hz (B2.out.below hb3);have X3:=Hz (X2.out.below hb3);clear hb3)
  | (go_at_call 88;refine (HS.out _ L3.out).mono ?_;rintro e w4 ⟨rfl,hb4⟩;have L4:=Hz ((L3.out.trans (hb4.mono L3.out.size)).alloc (L3.out.trans (hb4.mono L3.out.size)).size (.cells #[.int .i64 gs,.int .i64 gz,.int .i64 gh] 80));have B4:=Hz ((B3.out.below hb4).alloc (.cells #[.int .i64 gs,.int .i64 gz,.int .i64 gh] 80));have X4:=Hz ((X3.out.below hb4).alloc (.cells #[.int .i64 gs,.int .i64 gz,.int .i64 gh] 80));clear hb4)
  | (refine wpList_load_blk rfl 118 (.tmp 8) rfl w1.heap.size rfl X4.out Tryz.underlying118 rfl size_part ?_)
  | (refine wpList_store_blk rfl 118 (.tmp 6) (.tmp 31) rfl w.heap.size rfl pzs rfl B4.out rfl size_part one_pzs ?_;intro w5 hB5 ho5))
 have q0:=hB5.out.cell (i:=0) rfl
 have q1:=hB5.out.cell (i:=1) rfl
 have q2:=hB5.out.cell (i:=2) rfl
 have q3:=hB5.out.cell (i:=3) rfl
 refine bodyPost_ret (v:=.tuple #[pzero,.int .i64 16]) (by simp [results,Tryz.results70,go_sem,q0,q1,q2,q3]) rfl ?_
 exact⟨rfl,ho5.out.below L4.out (Nat.le_refl _) L4.out.size⟩
theorem staged_17 (zv:Value) (q ses gs gz gh:Int) (d la s0 s1 y:Nat) (hne:gs≠ses) (H:∀w',Below w.heap.size w w'→Calls Tryz.prog 64 #[zv,.int .i64 q] w' (Is w' d la s0 s1))
 (H2:∀w',Below w.heap.size w w'→Calls Tryz.prog 67 #[pval d la s0 s1] w' fun e w''=>e=.returned (.pointer (some ⟨y,0,none⟩))∧Below w'.heap.size w' w'')
 (H3:∀w',Below w.heap.size w w'→Calls Tryz.prog 88 #[.pointer (some ⟨y,0,none⟩)] w' fun e w''=>e=.returned (.tuple #[.agg #[.int .i64 gs,.int .i64 gz,.int .i64 gh],.bool true])∧Below w'.heap.size w' w'') :
 Calls Tryz.prog 70 #[zv,.int .i64 q,.int .i64 ses] w (No w 17):=by
 have HA:=Hz H
 have HT:=Hz H2
 have HS:=Hz H3
 have L0:=Hz (show Below w.heap.size w (w.alloc (.cells pzs.toArray 118)) from (Below.refl _ _).alloc (Nat.le_refl _) _)
 have B0:=Hz (Blk.new w 118 pzs)
 clear H H2 H3
 have hne2:(gs != ses)=true:=by simpa using hne
 go_enter Tryz.func70,Tryz.ntmps70
 go_wp2_with (first
  | (go_at_call 64;refine (HA.out _ L0.out).mono ?_;rintro e w1 ⟨rfl,hb1⟩;have L1:=Hz (L0.out.trans (hb1.mono L0.out.size));have B1:=Hz (B0.out.below hb1);have L2:=Hz (L1.out.alloc L1.out.size (.cells (pcs d la s0 s1).toArray 118));have B2:=Hz (B1.out.alloc (.cells (pcs d la s0 s1).toArray 118));have X2:=Hz (Blk.new w1 118 (pcs d la s0 s1));clear hb1)
  | (go_at_call 67;refine (HT.out _ L2.out).mono ?_;rintro e w3 ⟨rfl,hb3⟩;have L3:=Hz (L2.out.trans (hb3.mono L2.out.size));have B3:=Hz (B2.out.below hb3);have X3:=Hz (X2.out.below hb3);clear hb3)
  | (go_at_call 88;refine (HS.out _ L3.out).mono ?_;rintro e w4 ⟨rfl,hb4⟩;have L4:=Hz ((L3.out.trans (hb4.mono L3.out.size)).alloc (L3.out.trans (hb4.mono L3.out.size)).size (.cells #[.int .i64 gs,.int .i64 gz,.int .i64 gh] 80));have B4:=Hz ((B3.out.below hb4).alloc (.cells #[.int .i64 gs,.int .i64 gz,.int .i64 gh] 80));have X4:=Hz ((X3.out.below hb4).alloc (.cells #[.int .i64 gs,.int .i64 gz,.int .i64 gh] 80));clear hb4)
  | (refine wpList_load_blk rfl 118 (.tmp 8) rfl w1.heap.size rfl X4.out Tryz.underlying118 rfl size_part ?_)
  | (refine wpList_store_blk rfl 118 (.tmp 6) (.tmp 37) rfl w.heap.size rfl pzs rfl B4.out rfl size_part one_pzs ?_;intro w5 hB5 ho5))
 have q0:=hB5.out.cell (i:=0) rfl
 have q1:=hB5.out.cell (i:=1) rfl
 have q2:=hB5.out.cell (i:=2) rfl
 have q3:=hB5.out.cell (i:=3) rfl
 refine bodyPost_ret (v:=.tuple #[pzero,.int .i64 17]) (by simp [results,Tryz.results70,go_sem,q0,q1,q2,q3]) rfl ?_
 exact⟨rfl,ho5.out.below L4.out (Nat.le_refl _) L4.out.size⟩
theorem staged_ok (zv:Value) (q ses gs gz gh:Int) (d la s0 s1 y:Nat) (he:gs=ses) (H:∀w',Below w.heap.size w w'→Calls Tryz.prog 64 #[zv,.int .i64 q] w' (Is w' d la s0 s1))
 (H2:∀w',Below w.heap.size w w'→Calls Tryz.prog 67 #[pval d la s0 s1] w' fun e w''=>e=.returned (.pointer (some ⟨y,0,none⟩))∧Below w'.heap.size w' w'')
 (H3:∀w',Below w.heap.size w w'→Calls Tryz.prog 88 #[.pointer (some ⟨y,0,none⟩)] w' fun e w''=>e=.returned (.tuple #[.agg #[.int .i64 gs,.int .i64 gz,.int .i64 gh],.bool true])∧Below w'.heap.size w' w'') :
 Calls Tryz.prog 70 #[zv,.int .i64 q,.int .i64 ses] w (Is w d la s0 s1):=by
 have HA:=Hz H
 have HT:=Hz H2
 have HS:=Hz H3
 have L0:=Hz (show Below w.heap.size w (w.alloc (.cells pzs.toArray 118)) from (Below.refl _ _).alloc (Nat.le_refl _) _)
 have B0:=Hz (Blk.new w 118 pzs)
 clear H H2 H3
 subst he
 go_enter Tryz.func70,Tryz.ntmps70
 go_wp2_with (first
  | (go_at_call 64;refine (HA.out _ L0.out).mono ?_;rintro e w1 ⟨rfl,hb1⟩;have L1:=Hz (L0.out.trans (hb1.mono L0.out.size));have B1:=Hz (B0.out.below hb1);have L2:=Hz (L1.out.alloc L1.out.size (.cells (pcs d la s0 s1).toArray 118));have B2:=Hz (B1.out.alloc (.cells (pcs d la s0 s1).toArray 118));have X2:=Hz (Blk.new w1 118 (pcs d la s0 s1));clear hb1)
  | (go_at_call 67;refine (HT.out _ L2.out).mono ?_;rintro e w3 ⟨rfl,hb3⟩;have L3:=Hz (L2.out.trans (hb3.mono L2.out.size));have B3:=Hz (B2.out.below hb3);have X3:=Hz (X2.out.below hb3);clear hb3)
  | (go_at_call 88;refine (HS.out _ L3.out).mono ?_;rintro e w4 ⟨rfl,hb4⟩;have L4:=Hz ((L3.out.trans (hb4.mono L3.out.size)).alloc (L3.out.trans (hb4.mono L3.out.size)).size (.cells #[.int .i64 gs,.int .i64 gz,.int .i64 gh] 80));have B4:=Hz ((B3.out.below hb4).alloc (.cells #[.int .i64 gs,.int .i64 gz,.int .i64 gh] 80));have X4:=Hz ((X3.out.below hb4).alloc (.cells #[.int .i64 gs,.int .i64 gz,.int .i64 gh] 80));clear hb4)
  | (refine wpList_load_blk rfl 118 (.tmp 8) rfl w1.heap.size rfl X4.out Tryz.underlying118 rfl size_part ?_)
  | (refine wpList_store_blk rfl 118 (.tmp 6) (.tmp 38) rfl w.heap.size rfl (pcs d la s0 s1) rfl B4.out rfl size_part (one_pcs _ _ _ _) ?_;intro w5 hB5 ho5))
 have q0:=hB5.out.cell (i:=0) rfl
 have q1:=hB5.out.cell (i:=1) rfl
 have q2:=hB5.out.cell (i:=2) rfl
 have q3:=hB5.out.cell (i:=3) rfl
 refine bodyPost_ret (v:=.tuple #[pval d la s0 s1,.int .i64 0]) (by simp [results,Tryz.results70,go_sem,q0,q1,q2,q3]) rfl ?_
 exact⟨rfl,ho5.out.below L4.out (Nat.le_refl _) L4.out.size⟩
end
end StoN
namespace CmtN
open Go.RowKit Kit Byt Mem DskA DskC DskD DskE DskF RecM CmtM StgM
open RecA (rval rcells rok)
theorem one_zer:∀u ∈ zer,u.oneCell'=true:=one_two Rc.none Rc.none
section
variable {w:World} {F J:Nat→Prop} {a g:Nat} {s:St} {l:Lg}
theorem held_down (hD:Dk w F g s) (h:Lm w J a g l) (hp:l.p≤3) (hf:10*l.p+2≤s.S.length) (hd:s.down=true) :
 Calls Tryz.prog 152 #[.pointer (some ⟨a,0,none⟩)] w fun e w'=>e=.returned (.tuple #[.agg #[.int .i64 0,.int .i64 0,.int .i64 0,.int .i64 0,.int .i64 0,.int .i64 0,.int .i64 0,.int .i64 0,.int .i64 0,.int .i64 0,.int .i64 0,.int .i64 0],.int .i64 8])∧Below w.heap.size w w':=by
 obtain⟨c0,c1,_,_⟩:=h.cells
 have hal:=h.blk.lt
 have H:=Hz h
 have HP3:=Hz hp
 have HRD:=Hz (fun w' (hb:Below w.heap.size w w')=>read_down F g s ((10*l.p+0:Nat):Int) w' (hD.below hb) (by simp [inB];omega) hd)
 clear hD h hp hf hd
 have L0:=Hz (show Below w.heap.size w ((w.alloc (.cells zer.toArray 216)).alloc (.cells zer.toArray 216)) from ((Below.refl _ _).alloc (Nat.le_refl _) _).alloc (by rw [World.size_alloc];omega) _)
 have B0:=Hz (show Blk ((w.alloc (.cells zer.toArray 216)).alloc (.cells zer.toArray 216)) w.heap.size 216 zer from (Blk.new w _ _).alloc _)
 go_enter Tryz.func152,Tryz.ntmps152
 go_wp2
 obtain⟨w0,hw0⟩:∃w0,w0=(w.alloc (.cells zer.toArray 216)).alloc (.cells zer.toArray 216):=⟨_,rfl⟩
 rw [←hw0] at L0 B0
 have hw0':(w.alloc (.cells #[.int .i64 0,.int .i64 0,.int .i64 0,.int .i64 0,.int .i64 0,.int .i64 0,.int .i64 0,.int .i64 0,.int .i64 0,.int .i64 0,.int .i64 0,.int .i64 0] 216)).alloc (.cells #[.int .i64 0,.int .i64 0,.int .i64 0,.int .i64 0,.int .i64 0,.int .i64 0,.int .i64 0,.int .i64 0,.int .i64 0,.int .i64 0,.int .i64 0,.int .i64 0] 216)=w0:=hw0.symm
 rw [hw0']
 clear hw0 hw0'
 go_loopw [10] (fun i wr=>i=.int .i64 0∧Hid (Below w.heap.size w wr)∧Hid (Blk wr w.heap.size 216 zer)) (fun _ _=>0)
 case atStart=>exact⟨rfl,L0,B0⟩
 case round=>
  obtain⟨rfl,HL,HB⟩:=hrel
  have HS:=Hz (sector_any ((H.out.below HL.out).below ((Below.refl wr.heap.size wr).drew)) HP3.out (i:=0) (by omega))
  obtain⟨q,hq⟩:∃q,q=10*l.p+0:=⟨_,rfl⟩
  rw [←hq] at HS HRD
  have d0:=(HL.out.cell (p:=⟨a,0,none⟩) hal).trans c0
  have hal':a<wr.heap.size:=Nat.lt_of_lt_of_le hal HL.out.size
  clear hq c0 c1
  go_wp2_with fail
  go_region_held3 (fun w'=>w'.cell? ⟨a,0,none⟩=some (.pointer (some ⟨g,0,none⟩)))
   (first
    | go_keep
    | (rw [hb1.cell (by simpa using hal')];assumption))
   ((first
     | (have hq:=HB1;clear hq;go_at_call 35;refine (HRD.out _ HB1.out).mono ?_;rintro e w2 ⟨rfl,rfl⟩)
     | (go_at_call 185;refine HS.out.mono ?_;rintro e w1 ⟨rfl,hb1⟩;have HB1:=Hz (show Below w.heap.size w w1 from HL.out.trans ((((Below.refl wr.heap.size wr).drew).trans hb1).mono HL.out.size));have HX1:=Hz (HB.out.below (((Below.refl wr.heap.size wr).drew).trans hb1)))))
  have LX:=Hz HB1.out
  have BX:=Hz HX1.out
  go_wp2_with (refine wpList_store_blk rfl 216 (.tmp 2) (.tmp 26) rfl w.heap.size rfl zer rfl BX.out rfl size_two one_zer ?_;intro w5 hB5 ho5)
  have e0:=hB5.out.cell (i:=0) rfl
  have e1:=hB5.out.cell (i:=1) rfl
  have e2:=hB5.out.cell (i:=2) rfl
  have e3:=hB5.out.cell (i:=3) rfl
  have e4:=hB5.out.cell (i:=4) rfl
  have e5:=hB5.out.cell (i:=5) rfl
  have e6:=hB5.out.cell (i:=6) rfl
  have e7:=hB5.out.cell (i:=7) rfl
  have e8:=hB5.out.cell (i:=8) rfl
  have e9:=hB5.out.cell (i:=9) rfl
  have ea:=hB5.out.cell (i:=10) rfl
  have eb:=hB5.out.cell (i:=11) rfl
  refine bodyPost_ret (v:=.tuple #[.agg #[.int .i64 0,.int .i64 0,.int .i64 0,.int .i64 0,.int .i64 0,.int .i64 0,.int .i64 0,.int .i64 0,.int .i64 0,.int .i64 0,.int .i64 0,.int .i64 0],.int .i64 8]) (by simp [results,Tryz.results152,go_sem,Rc.none,e0,e1,e2,e3,e4,e5,e6,e7,e8,e9,ea,eb]) rfl ?_
  exact⟨rfl,ho5.out.below LX.out (Nat.le_refl _) LX.out.size⟩
end
theorem open_down (F:Nat→Prop) (g:Nat) (s:St) (p:Nat) (w:World) (hD:Dk w F g s) (hp:p≤3) (hf:10*p+2≤s.S.length) (hd:s.down=true) :
 Calls Tryz.prog 103 #[.pointer (some ⟨g,0,none⟩),.int .i64 (p:Nat)] w fun e w'=>e=.returned (.tuple #[.pointer none,.int .i64 8])∧Below w.heap.size w w':=by
 have H1:=Hz (logOf_any F g s p w hD hp hf)
 have H2:=Hz (fun (w':World) a (hb':Below w.heap.size w w') (h:Lm w' (fun i=>i=a) a g ⟨p,Rc.none,0⟩)=>held_down (hD.below hb') h hp hf hd)
 clear hD hp hf hd
 go_enter Tryz.func103,Tryz.ntmps103
 go_wp2_with (first
  | (go_at_call 151;refine H1.out.mono ?_;rintro e w1 ⟨a,rfl,ha,hlm,hb1⟩;have L1:=Hz hb1;have HM1:=Hz hlm;clear hb1 ha hlm)
  | (go_at_call 152;refine (H2.out w1 a L1.out HM1.out).mono ?_;rintro e w2 ⟨rfl,hb2⟩;have L2:=Hz (L1.out.trans (hb2.mono L1.out.size));clear hb2))
 go_ret2
 exact⟨rfl,L2.out.alloc L2.out.size _⟩
end CmtN
namespace StoN
open Go.RowKit Kit Byt Mem DskA DskC DskD DskE RecM StgM CmtM StoM StoW
open RecA (rval rcells rok sval scells sok)
open StgN (Sm DS Sgo)
open CmtN (Lm LS Lgo)
open TabA (Tri Tris Ta)
open RecN (Puts)
theorem sseq (s z h:Int) (w:World):(Op.equalIn 10000 80 (.agg #[.int .i64 s,.int .i64 z,.int .i64 h]) (.agg #[.int .i64 s,.int .i64 z,.int .i64 h])).run Tryz.prog w=.ok true w:=by
 have ht:Tryz.prog.underlying 80=some (.struct (Tryz.prog.fieldsOf 80)):=by kernel_rfl
 have hp:Tryz.prog.stoodInHeld 80=false:=by kernel_rfl
 rw [show (10000:Nat)=9999+1 from rfl,run_equalIn_struct w 9999 _ _ _ ht hp]
 simp [go_sem,Op.eqFields,Tryz.underlying80,Tryz.underlying3]
theorem pwrite_down {w:World} {F:Nat→Prop} {g:Nat} {s:St} (hD:Dk w F g s) (hd:s.down=true) (la s0 s1:Nat) (A:Option Addr) (c:Nat) (b n d:Nat) (q:Int) (hq:inB s q=true) (h0:w.cell? ⟨b,0,none⟩=some (.int .i64 q)) (hbl:b<w.heap.size) (hn:0<n) (hn2:n≤2) :
 Calls Tryz.prog 118 #[pval g la s0 s1,.slice A 64 c,.slice (some ⟨b,0,none⟩) n d] w fun e w'=>e=.returned (.int .i64 8)∧∃F',Dk w' F' g s∧Keep F w w'∧(∀i,F' i→F i∨w.heap.size≤i):=by
 have hs:spend s=(false,s):=spend_down hd
 have HW:=Hz (fun w' (hb:Below w.heap.size w w')=>(show Calls Tryz.prog 36 #[.pointer (some ⟨g,0,none⟩),.int .i64 q,.slice A 64 c] w' (Got F g w' (.int .i64 8) s) from by have:=write_down F g s q A c w' (hD.below hb) hq (by rw [hs]);rw [hs] at this;exact this))
 have hnz:(0:Int)<n:=by omega
 have HL0:=Hz (show Below w.heap.size w (w.alloc (.cells (pcs g la s0 s1).toArray 118)) from (Below.refl _ _).alloc (Nat.le_refl _) _)
 have HB0:=Hz (Blk.new w 118 (pcs g la s0 s1))
 clear hD hd hq hs
 go_enter Tryz.func118,Tryz.ntmps118
 go_wp2
 obtain⟨w0,hw0⟩:∃w0,w0=w.alloc (.cells (pcs g la s0 s1).toArray 118):=⟨_,rfl⟩
 rw [←hw0] at HL0 HB0
 have hw0':w.alloc (.cells #[.pointer (some ⟨la,0,none⟩),.pointer (some ⟨s0,0,none⟩),.pointer (some ⟨s1,0,none⟩),.pointer (some ⟨g,0,none⟩)] 118)=w0:=hw0.symm
 rw [hw0']
 clear hw0 hw0'
 go_loopw [12] (fun i wr=>i=.int .i64 0∧wr=w0) (fun _ _=>0)
 case atStart=>exact⟨rfl,rfl⟩
 case round=>
  obtain⟨rfl,rfl⟩:=hrel
  have e0:=(HL0.out.cell (p:=⟨b,0,none⟩) hbl).trans h0
  have hbl':=Nat.lt_of_lt_of_le hbl HL0.out.size
  have c3:=HB0.out.cell (i:=3) rfl
  clear h0
  go_wp2_with (go_at_call 36;refine (HW.out _ HL0.out).mono ?_;rintro e w2 ⟨rfl,F2,hD2,hk2,hf2⟩;have HD2:=Hz hD2;have HK2:=Hz hk2;have HF2:=Hz hf2;clear hD2 hk2 hf2)
  go_ret
  refine⟨rfl,F2,HD2.out,(Keep.of_below (F:=F) HL0.out).trans HK2.out fun i hi=>.inl hi,fun i hi=>(HF2.out i hi).imp id fun h=>Nat.le_trans HL0.out.size h⟩
section
variable {w:World} {F:Nat→Prop} {g:Nat} {s:St}
theorem holdRecord_same (la s0 s1:Nat) (r0 r1 r2 r3 r4 r5:Int) (h1:∀w',Below w.heap.size w w'→Calls Tryz.prog 56 #[.pointer (some ⟨la,0,none⟩)] w' fun e w''=>e=.returned (.agg #[.int .i64 r0,.int .i64 r1,.int .i64 r2,.int .i64 r3,.int .i64 r4,.int .i64 r5])∧Below w'.heap.size w' w'')
 (h2:∀w',Below w.heap.size w w'→Calls Tryz.prog 103 #[.pointer (some ⟨g,0,none⟩),.int .i64 r0] w' fun e w''=>∃x,e=.returned (.tuple #[.pointer (some ⟨x,0,none⟩),.int .i64 0])∧Below w'.heap.size w' w''∧
   ∀w3,Below w''.heap.size w'' w3→Calls Tryz.prog 56 #[.pointer (some ⟨x,0,none⟩)] w3 fun e w4=>e=.returned (.agg #[.int .i64 r0,.int .i64 r1,.int .i64 r2,.int .i64 r3,.int .i64 r4,.int .i64 r5])∧Below w3.heap.size w3 w4) :
 Calls Tryz.prog 66 #[pval g la s0 s1] w fun e w'=>e=.returned (.int .i64 0)∧Below w.heap.size w w':=by
 have H1:=Hz h1
 have H2:=Hz h2
 have L0:=Hz (show Below w.heap.size w (w.alloc (.cells (pcs g la s0 s1).toArray 118)) from (Below.refl _ _).alloc (Nat.le_refl _) _)
 have X0:=Hz (Blk.new w 118 (pcs g la s0 s1))
 have hE:=fun w:World=>(CmtC.req ⟨r0,r1,r2,r3,r4,r5⟩ ⟨r0,r1,r2,r3,r4,r5⟩ true ⟨fun _=>rfl,fun _=>rfl⟩ w:(Op.equalIn 10000 64 (.agg #[.int .i64 r0,.int .i64 r1,.int .i64 r2,.int .i64 r3,.int .i64 r4,.int .i64 r5]) (.agg #[.int .i64 r0,.int .i64 r1,.int .i64 r2,.int .i64 r3,.int .i64 r4,.int .i64 r5])).run Tryz.prog w=.ok true w)
 clear h1 h2
 go_enter Tryz.func66,Tryz.ntmps66
 go_wp2_with (first
  | (go_at_call 56;refine (H1.out _ L0.out).mono ?_;rintro e w1 ⟨rfl,hb1⟩;have L1:=Hz (L0.out.trans (hb1.mono L0.out.size));have L2:=Hz (L1.out.alloc L1.out.size (.cells #[.int .i64 r0,.int .i64 r1,.int .i64 r2,.int .i64 r3,.int .i64 r4,.int .i64 r5] 64));have X2:=Hz ((X0.out.below hb1).alloc (.cells #[.int .i64 r0,.int .i64 r1,.int .i64 r2,.int .i64 r3,.int .i64 r4,.int .i64 r5] 64));have R2:=Hz (Blk.new w1 64 [.int .i64 r0,.int .i64 r1,.int .i64 r2,.int .i64 r3,.int .i64 r4,.int .i64 r5]);have d3:=X2.out.cell (i:=3) rfl;clear hb1)
  | (go_at_call 103;refine (H2.out _ L2.out).mono ?_;rintro e w3 ⟨x,rfl,hb3,hl3⟩;have L3:=Hz (L2.out.trans (hb3.mono L2.out.size));have R3:=Hz (R2.out.below hb3);have HL3:=Hz hl3;clear hb3 hl3))
 obtain⟨xr,hxr⟩:∃xr,xr=w1.heap.size:=⟨_,rfl⟩
 rw [←hxr] at R3 ⊢
 have k0:=R3.out.cell (i:=0) rfl
 have k1:=R3.out.cell (i:=1) rfl
 have k2:=R3.out.cell (i:=2) rfl
 have k3:=R3.out.cell (i:=3) rfl
 have k4:=R3.out.cell (i:=4) rfl
 have k5:=R3.out.cell (i:=5) rfl
 have hrl:=R3.out.lt
 clear d3 hxr
 go_region_held3 (fun w'=>w'.cell? ⟨xr,0,none⟩=some (.int .i64 r0)∧w'.cell? ⟨xr,1,none⟩=some (.int .i64 r1)∧w'.cell? ⟨xr,2,none⟩=some (.int .i64 r2)∧w'.cell? ⟨xr,3,none⟩=some (.int .i64 r3)∧w'.cell? ⟨xr,4,none⟩=some (.int .i64 r4)∧w'.cell? ⟨xr,5,none⟩=some (.int .i64 r5))
  (first
   | go_keep
   | (go_split_ands;refine⟨?_,?_,?_,?_,?_,?_⟩ <;> (rw [hb4.cell (by simpa using hrl)];assumption)))
  ((go_at_call 56;refine (HL3.out _ ((Below.refl w3.heap.size w3).drew)).mono ?_;rintro e w4 ⟨rfl,hb4⟩;have L4:=Hz (L3.out.trans ((((Below.refl w3.heap.size w3).drew).trans hb4).mono L3.out.size))))
 go_wp2
 go_ret
 exact⟨rfl,L4.out⟩
theorem holdRecord_dn (hD:Dk w F g s) (hd:s.down=true) (la s0 s1 p:Nat) (hp:p≤3) (hf:10*p+2≤s.S.length) (r1 r2 r3 r4 r5:Int) (hr:(⟨(p:Nat),r1,r2,r3,r4,r5⟩:Rc).right) (hk:rok ⟨(p:Nat),r1,r2,r3,r4,r5⟩)
 (h1:∀w',Below w.heap.size w w'→Calls Tryz.prog 56 #[.pointer (some ⟨la,0,none⟩)] w' fun e w''=>e=.returned (.agg #[.int .i64 (p:Nat),.int .i64 r1,.int .i64 r2,.int .i64 r3,.int .i64 r4,.int .i64 r5])∧Below w'.heap.size w' w'') :
 Calls Tryz.prog 66 #[pval g la s0 s1] w fun e w'=>e=.returned (.int .i64 8)∧∃F',Dk w' F' g s∧Keep F w w'∧(∀i,F' i→F i∨w.heap.size≤i):=by
 have H1:=Hz h1
 have H2:=Hz (fun w' (hb:Below w.heap.size w w')=>CmtN.open_down F g s p w' (hD.below hb) hp hf hd)
 have H3:=Hz (fun w'=>(show Calls Tryz.prog 56 #[.pointer none] w' fun e w''=>e=.returned (.agg #[.int .i64 0,.int .i64 0,.int .i64 0,.int .i64 0,.int .i64 0,.int .i64 0])∧Below w'.heap.size w' w'' from CmtN.latest_nil w'))
 have H4:=Hz (fun w'=>RecN.rput_yes ⟨(p:Nat),r1,r2,r3,r4,r5⟩ w' hk hr)
 have hl64:(shut (⟨(p:Nat),r1,r2,r3,r4,r5⟩:Rc).bytes).length=64:=shut_len (by rw [Rc.bytes_len];omega)
 obtain⟨bs,hbs⟩:∃bs,bs=shut (⟨(p:Nat),r1,r2,r3,r4,r5⟩:Rc).bytes:=⟨_,rfl⟩
 rw [←hbs] at H4 hl64
 have HL64:=Hz hl64
 have H5:=Hz (fun w'=>CmtN.pcommit_at (p:=p) (k:=0) hp (by omega) w')
 have H6:=Hz (fun w'=>CmtN.pcommit_at (p:=p) (k:=1) hp (by omega) w')
 have HIN:=Hz (show inB s ((10*p+0:Nat):Int)=true from by simp [inB];omega)
 have HW:=Hz (fun (w':World) (hb:Below w.heap.size w w') A c b n d q hq h0 hbl hn hn2=>pwrite_down (hD.below hb) hd la s0 s1 A c b n d q hq h0 hbl hn hn2)
 obtain⟨q0,hq0⟩:∃q,q=10*p+0:=⟨_,rfl⟩
 obtain⟨q1,hq1⟩:∃q,q=10*p+1:=⟨_,rfl⟩
 rw [←hq0] at H5 HIN
 rw [←hq1] at H6
 have hE:∀w:World,(Op.equalIn 10000 64 (.agg #[.int .i64 0,.int .i64 0,.int .i64 0,.int .i64 0,.int .i64 0,.int .i64 0]) (.agg #[.int .i64 (p:Nat),.int .i64 r1,.int .i64 r2,.int .i64 r3,.int .i64 r4,.int .i64 r5])).run Tryz.prog w=.ok false w:=fun w=>CmtC.req Rc.none ⟨(p:Nat),r1,r2,r3,r4,r5⟩ false (by
  refine⟨fun h=>(by cases h),fun h=>?_⟩
  have h8:=hr
  rw [←h] at h8
  have:=h8.1.2.1
  exact absurd this.1 (by show ¬(1:Int)≤0;omega)) w
 have L0:=Hz (show Below w.heap.size w (w.alloc (.cells (pcs g la s0 s1).toArray 118)) from (Below.refl _ _).alloc (Nat.le_refl _) _)
 have X0:=Hz (Blk.new w 118 (pcs g la s0 s1))
 clear h1 hbs hl64 hD hd hp hf hr hk hq0 hq1
 go_enter Tryz.func66,Tryz.ntmps66
 go_wp2_with (first
  | (go_at_call 56;refine (H1.out _ L0.out).mono ?_;rintro e w1 ⟨rfl,hb1⟩;have L1:=Hz (L0.out.trans (hb1.mono L0.out.size));have L2:=Hz (L1.out.alloc L1.out.size (.cells #[.int .i64 (p:Nat),.int .i64 r1,.int .i64 r2,.int .i64 r3,.int .i64 r4,.int .i64 r5] 64));have X2:=Hz ((X0.out.below hb1).alloc (.cells #[.int .i64 (p:Nat),.int .i64 r1,.int .i64 r2,.int .i64 r3,.int .i64 r4,.int .i64 r5] 64));have R2:=Hz (Blk.new w1 64 [.int .i64 (p:Nat),.int .i64 r1,.int .i64 r2,.int .i64 r3,.int .i64 r4,.int .i64 r5]);have d3:=X2.out.cell (i:=3) rfl;clear hb1)
  | (go_at_call 103;refine (H2.out _ L2.out).mono ?_;rintro e w3 ⟨rfl,hb3⟩;have L3:=Hz (L2.out.trans (hb3.mono L2.out.size));have R3:=Hz (R2.out.below hb3);have X3:=Hz (X2.out.below hb3);clear hb3))
 obtain⟨xr,hxr⟩:∃xr,xr=w1.heap.size:=⟨_,rfl⟩
 rw [←hxr] at R3 ⊢
 have k0:=R3.out.cell (i:=0) rfl
 have k1:=R3.out.cell (i:=1) rfl
 have k2:=R3.out.cell (i:=2) rfl
 have k3:=R3.out.cell (i:=3) rfl
 have k4:=R3.out.cell (i:=4) rfl
 have k5:=R3.out.cell (i:=5) rfl
 have hrl:=R3.out.lt
 clear d3 hxr
 go_region_held3 (fun w'=>w'.cell? ⟨xr,0,none⟩=some (.int .i64 (p:Nat))∧w'.cell? ⟨xr,1,none⟩=some (.int .i64 r1)∧w'.cell? ⟨xr,2,none⟩=some (.int .i64 r2)∧w'.cell? ⟨xr,3,none⟩=some (.int .i64 r3)∧w'.cell? ⟨xr,4,none⟩=some (.int .i64 r4)∧w'.cell? ⟨xr,5,none⟩=some (.int .i64 r5))
  (first
   | go_keep
   | (go_split_ands;refine⟨?_,?_,?_,?_,?_,?_⟩ <;> (rw [hb4.cell (by simpa using hrl)];assumption)))
  ((go_at_call 56;refine (H3.out _).mono ?_;rintro e w4 ⟨rfl,hb4⟩;have L4:=Hz (L3.out.trans ((((Below.refl w3.heap.size w3).drew).trans hb4).mono L3.out.size));have R4:=Hz (R3.out.below (((Below.refl w3.heap.size w3).drew).trans hb4));have X4:=Hz (X3.out.below (((Below.refl w3.heap.size w3).drew).trans hb4))))
 have L4c:=Hz L4.out
 have R4c:=Hz R4.out
 have X4c:=Hz X4.out
 clear hb4 k0 k1 k2 k3 k4 k5 hrl
 have m0:=R4c.out.cell (i:=0) rfl
 have m1:=R4c.out.cell (i:=1) rfl
 have m2:=R4c.out.cell (i:=2) rfl
 have m3:=R4c.out.cell (i:=3) rfl
 have m4:=R4c.out.cell (i:=4) rfl
 have m5:=R4c.out.cell (i:=5) rfl
 go_wp2_with fail
 refine (H4.out _).mono ?_
 rintro e w5 ⟨B,m,d,rfl,hown,hb5⟩
 obtain rfl:64=m:=by have h9:=Rd.nats (Rd.own hown);have:=HL64.out;omega
 have L5:=Hz (L4c.out.trans (hb5.mono L4c.out.size))
 have R5:=Hz (R4c.out.below hb5)
 have X5:=Hz (X4c.out.below hb5)
 have n0:=R5.out.cell (i:=0) rfl
 clear hb5 hown m0 m1 m2 m3 m4 m5
 go_wp2_with fail
 refine (H5.out _).mono ?_
 rintro e w6 ⟨rfl,hb6⟩
 have L6:=Hz (L5.out.trans (hb6.mono L5.out.size))
 have R6:=Hz (R5.out.below hb6)
 have X6:=Hz (X5.out.below hb6)
 have n1:=R6.out.cell (i:=0) rfl
 clear hb6 n0
 go_wp2_with fail
 refine (H6.out _).mono ?_
 rintro e w7 ⟨rfl,hb7⟩
 have L7:=Hz (L6.out.trans (hb7.mono L6.out.size))
 have X7:=Hz (X6.out.below hb7)
 have y0:=X7.out.cell (i:=0) rfl
 have y1:=X7.out.cell (i:=1) rfl
 have y2:=X7.out.cell (i:=2) rfl
 have y3:=X7.out.cell (i:=3) rfl
 clear hb7 n1
 have L8:=Hz (L7.out.alloc L7.out.size (.cells #[.int .i64 (q0:Nat),.int .i64 (q1:Nat)] 3))
 have B8:=Hz (Blk.new w7 3 [.int .i64 (q0:Nat),.int .i64 (q1:Nat)])
 go_wp2_with fail
 refine (HW.out _ L8.out _ _ w7.heap.size 2 2 (q0:Nat) HIN.out (B8.out.cell (i:=0) rfl) B8.out.lt (by omega) (by omega)).mono ?_
 rintro e w9 ⟨rfl,F9,hD9,hk9,hf9⟩
 go_wp2
 go_ret
 exact⟨rfl,F9,hD9,(Keep.of_below (F:=F) L8.out).trans hk9 fun i hi=>.inl hi,fun i hi=>(hf9 i hi).imp id fun h=>Nat.le_trans L8.out.size h⟩
end
section
variable {w:World} {g:Nat}
theorem holdStage_same (la s0 s1 k a:Nat) (hk:k=0∧a=s0∨k=1∧a=s1) (p r1 r2 r3 r4 r5 gs gz gh:Int) (has has2:Bool) (h1:∀w',Below w.heap.size w w'→Calls Tryz.prog 56 #[.pointer (some ⟨la,0,none⟩)] w' fun e w''=>e=.returned (.agg #[.int .i64 p,.int .i64 r1,.int .i64 r2,.int .i64 r3,.int .i64 r4,.int .i64 r5])∧Below w'.heap.size w' w'')
 (h2:∀w',Below w.heap.size w w'→Calls Tryz.prog 88 #[.pointer (some ⟨a,0,none⟩)] w' fun e w''=>e=.returned (.tuple #[.agg #[.int .i64 gs,.int .i64 gz,.int .i64 gh],.bool has])∧Below w'.heap.size w' w'')
 (h3:∀w',Below w.heap.size w w'→Calls Tryz.prog 104 #[.pointer (some ⟨g,0,none⟩),.int .i64 p,.int .i64 (k:Nat)] w' fun e w''=>∃x,e=.returned (.tuple #[.pointer (some ⟨x,0,none⟩),.int .i64 0])∧Below w'.heap.size w' w''∧
   ∀w3,Below w''.heap.size w'' w3→Calls Tryz.prog 88 #[.pointer (some ⟨x,0,none⟩)] w3 fun e w4=>e=.returned (.tuple #[.agg #[.int .i64 gs,.int .i64 gz,.int .i64 gh],.bool has2])∧Below w3.heap.size w3 w4) :
 Calls Tryz.prog 74 #[pval g la s0 s1,.int .i64 (k:Nat)] w fun e w'=>e=.returned (.int .i64 0)∧Below w.heap.size w w':=by
 have H1:=Hz h1
 have H2:=Hz h2
 have H3:=Hz h3
 have L0:=Hz (show Below w.heap.size w (w.alloc (.cells (pcs g la s0 s1).toArray 118)) from (Below.refl _ _).alloc (Nat.le_refl _) _)
 have X0:=Hz (Blk.new w 118 (pcs g la s0 s1))
 have HSEL:=Hz (show (pcs g la s0 s1)[1+k]?=some (.pointer (some ⟨a,0,none⟩)) from by rcases hk with⟨rfl,rfl⟩|⟨rfl,rfl⟩ <;> rfl)
 have hk2:k<2:=by omega
 have hE:=fun w:World=>sseq gs gz gh w
 have hfl:=fun w=>(rfield p r1 r2 r3 r4 r5 w).1
 clear h1 h2 h3 hk
 go_enter Tryz.func74,Tryz.ntmps74
 go_wp2_with fail
 refine (H1.out _ L0.out).mono ?_
 rintro e w1 ⟨rfl,hb1⟩
 have L1:=Hz (L0.out.trans (hb1.mono L0.out.size))
 have X1:=Hz (X0.out.below hb1)
 have d1:=X1.out.cell HSEL.out
 clear hb1
 go_wp2_with fail
 refine (H2.out _ L1.out).mono ?_
 rintro e w2 ⟨rfl,hb2⟩
 have L2:=Hz (L1.out.trans (hb2.mono L1.out.size))
 have L3:=Hz (L2.out.alloc L2.out.size (.cells #[.int .i64 gs,.int .i64 gz,.int .i64 gh] 80))
 have X3:=Hz ((X1.out.below hb2).alloc (.cells #[.int .i64 gs,.int .i64 gz,.int .i64 gh] 80))
 have d3:=X3.out.cell (i:=3) rfl
 have S3:=Hz (Blk.new w2 80 [.int .i64 gs,.int .i64 gz,.int .i64 gh])
 clear hb2 d1
 go_wp2_with fail
 refine (H3.out _ L3.out).mono ?_
 rintro e w4 ⟨x,rfl,hb4,hx4⟩
 have L4:=Hz (L3.out.trans (hb4.mono L3.out.size))
 have S4:=Hz (S3.out.below hb4)
 have HX4:=Hz hx4
 clear hb4 hx4 d3
 go_wp2_with fail
 refine (HX4.out _ (Below.refl _ _)).mono ?_
 rintro e w5 ⟨rfl,hb5⟩
 have L5:=Hz (L4.out.trans (hb5.mono L4.out.size))
 have L6:=Hz (L5.out.alloc L5.out.size (.cells #[.int .i64 gs,.int .i64 gz,.int .i64 gh] 80))
 have S6:=Hz ((S4.out.below hb5).alloc (.cells #[.int .i64 gs,.int .i64 gz,.int .i64 gh] 80))
 have k0:=S6.out.cell (i:=0) rfl
 have k1:=S6.out.cell (i:=1) rfl
 have k2:=S6.out.cell (i:=2) rfl
 clear hb5
 go_wp2
 go_ret
 exact⟨rfl,L6.out⟩
end
end StoN
namespace StoN
open Go.RowKit Kit Byt Mem DskA DskE RecM StgM CmtM StoM StoW
section
variable {w:World} {R:World→Prop} {d la s0 s1 y:Nat} {x:Int}
def Un (w:World) (zv:Value) (q:Int) (Q:World→Ending→World→Prop):Prop:=∀w',Below w.heap.size w w'→Calls Tryz.prog 64 #[zv,.int .i64 q] w' (Q w')
def Sd (w:World) (zv:Value) (q ses:Int) (Q:World→Ending→World→Prop):Prop:=∀w',Below w.heap.size w w'→Calls Tryz.prog 70 #[zv,.int .i64 q,.int .i64 ses] w' (Q w')
def Hr (w:World) (d la s0 s1:Nat) (Q:World→Ending→World→Prop):Prop:=∀w',Below w.heap.size w w'→Calls Tryz.prog 66 #[pval d la s0 s1] w' (Q w')
def Ldd (w:World) (d la s0 s1 y:Nat):Prop:=∀w',Below w.heap.size w w'→Calls Tryz.prog 67 #[pval d la s0 s1] w' fun e w''=>e=.returned (.pointer (some ⟨y,0,none⟩))∧Below w'.heap.size w' w''
def An (x:Int) (R:World→Prop) (e:Ending) (w':World):Prop:=e=.returned (.int .i64 x)∧R w'
def Zr (w:World) (e:Ending) (w':World):Prop:=e=.returned (.int .i64 0)∧Below w.heap.size w w'
theorem begin_no (zv:Value) (q ses z:Int) (hx:x≠0) (h:Un w zv q (fun w'=>No w' x)):Calls Tryz.prog 21 #[zv,.int .i64 q,.int .i64 ses,.int .i64 z] w (An x (Below w.heap.size w)):=by
 have HU:=Hz (h w (Below.refl _ _))
 clear h
 go_enter Tryz.func21,Tryz.ntmps21
 go_wp2_with (go_at_call 64;refine HU.out.mono ?_;rintro e w1 ⟨rfl,hb1⟩;have L1:=Hz hb1;clear hb1)
 go_ret
 exact⟨rfl,L1.out.alloc L1.out.size _⟩
theorem begin_3 (zv:Value) (q ses z:Int) (h:Un w zv q (fun w'=>Is w' d la s0 s1)) (h2:∀w',Below w.heap.size w w'→Calls Tryz.prog 65 #[.agg #[.int .i64 ses,.int .i64 z,.int .i64 0]] w' fun e w''=>e=.returned (.bool false)∧Below w'.heap.size w' w'') :
 Calls Tryz.prog 21 #[zv,.int .i64 q,.int .i64 ses,.int .i64 z] w (An 3 (Below w.heap.size w)):=by
 have HU:=Hz (h w (Below.refl _ _))
 have H2:=Hz h2
 clear h h2
 go_enter Tryz.func21,Tryz.ntmps21
 go_wp2_with (first
  | (go_at_call 64;refine HU.out.mono ?_;rintro e w1 ⟨rfl,hb1⟩;have L1:=Hz (hb1.alloc hb1.size (.cells (pcs d la s0 s1).toArray 118));clear hb1)
  | (go_at_call 65;refine (H2.out _ L1.out).mono ?_;rintro e w2 ⟨rfl,hb2⟩;have L2:=Hz (L1.out.trans (hb2.mono L1.out.size));clear hb2))
 go_ret
 exact⟨rfl,L2.out⟩
theorem begin_8 (zv:Value) (q ses z:Int) (hx:x≠0) (h:Un w zv q (fun w'=>Is w' d la s0 s1)) (h2:∀w',Below w.heap.size w w'→Calls Tryz.prog 65 #[.agg #[.int .i64 ses,.int .i64 z,.int .i64 0]] w' fun e w''=>e=.returned (.bool true)∧Below w'.heap.size w' w'')
 (h3:Hr w d la s0 s1 (fun _=>An x R)) :
 Calls Tryz.prog 21 #[zv,.int .i64 q,.int .i64 ses,.int .i64 z] w (An x R):=by
 have HU:=Hz (h w (Below.refl _ _))
 have H2:=Hz h2
 have H3:=Hz h3
 clear h h2 h3
 go_enter Tryz.func21,Tryz.ntmps21
 go_wp2_with (first
  | (go_at_call 64;refine HU.out.mono ?_;rintro e w1 ⟨rfl,hb1⟩;have L1:=Hz (hb1.alloc hb1.size (.cells (pcs d la s0 s1).toArray 118));have X1:=Hz (Blk.new w1 118 (pcs d la s0 s1));clear hb1)
  | (go_at_call 65;refine (H2.out _ L1.out).mono ?_;rintro e w2 ⟨rfl,hb2⟩;have L2:=Hz (L1.out.trans (hb2.mono L1.out.size));have X2:=Hz (X1.out.below hb2);clear hb2)
  | (refine wpList_load_blk rfl 118 (.tmp 9) rfl w1.heap.size rfl X2.out Tryz.underlying118 rfl size_part ?_)
  | (go_at_call 66;refine (H3.out _ L2.out).mono ?_;rintro e w3 ⟨rfl,hr3⟩;have HR3:=Hz hr3;clear hr3))
 go_ret
 exact⟨rfl,HR3.out⟩
theorem begin_go (zv:Value) (q ses z:Int) (h:Un w zv q (fun w'=>Is w' d la s0 s1)) (h2:∀w',Below w.heap.size w w'→Calls Tryz.prog 65 #[.agg #[.int .i64 ses,.int .i64 z,.int .i64 0]] w' fun e w''=>e=.returned (.bool true)∧Below w'.heap.size w' w'')
 (h3:Hr w d la s0 s1 Zr) (h4:Ldd w d la s0 s1 y) (h5:∀w',Below w.heap.size w w'→Calls Tryz.prog 68 #[.pointer (some ⟨y,0,none⟩),.int .i64 ses,.int .i64 z] w' (An x R)) :
 Calls Tryz.prog 21 #[zv,.int .i64 q,.int .i64 ses,.int .i64 z] w (An x R):=by
 have HU:=Hz (h w (Below.refl _ _))
 have H2:=Hz h2
 have H3:=Hz h3
 have H4:=Hz h4
 have H5:=Hz h5
 clear h h2 h3 h4 h5
 go_enter Tryz.func21,Tryz.ntmps21
 go_wp2_with (first
  | (go_at_call 64;refine HU.out.mono ?_;rintro e w1 ⟨rfl,hb1⟩;have L1:=Hz (hb1.alloc hb1.size (.cells (pcs d la s0 s1).toArray 118));have X1:=Hz (Blk.new w1 118 (pcs d la s0 s1));clear hb1)
  | (go_at_call 65;refine (H2.out _ L1.out).mono ?_;rintro e w2 ⟨rfl,hb2⟩;have L2:=Hz (L1.out.trans (hb2.mono L1.out.size));have X2:=Hz (X1.out.below hb2);clear hb2)
  | (have hq:=L3;clear hq;refine wpList_load_blk rfl 118 (.tmp 9) rfl w1.heap.size rfl X3.out Tryz.underlying118 rfl size_part ?_)
  | (refine wpList_load_blk rfl 118 (.tmp 9) rfl w1.heap.size rfl X2.out Tryz.underlying118 rfl size_part ?_)
  | (go_at_call 66;refine (H3.out _ L2.out).mono ?_;rintro e w3 ⟨rfl,hb3⟩;have L3:=Hz (L2.out.trans (hb3.mono L2.out.size));have X3:=Hz (X2.out.below hb3);clear hb3)
  | (go_at_call 67;refine (H4.out _ L3.out).mono ?_;rintro e w4 ⟨rfl,hb4⟩;have L4:=Hz (L3.out.trans (hb4.mono L3.out.size));clear hb4)
  | (go_at_call 68;refine (H5.out _ L4.out).mono ?_;rintro e w5 ⟨rfl,hr5⟩;have HR5:=Hz hr5;clear hr5))
 go_ret
 exact⟨rfl,HR5.out⟩
theorem put_no (zv:Value) (q ses no:Int) (A:Option Addr) (m c:Nat) (hx:x≠0) (h:Un w zv q (fun w'=>No w' x)):Calls Tryz.prog 22 #[zv,.int .i64 q,.int .i64 ses,.int .i64 no,.slice A m c] w (An x (Below w.heap.size w)):=by
 have HU:=Hz (h w (Below.refl _ _))
 clear h
 go_enter Tryz.func22,Tryz.ntmps22
 go_wp2_with (go_at_call 64;refine HU.out.mono ?_;rintro e w1 ⟨rfl,hb1⟩;have L1:=Hz hb1;clear hb1)
 go_ret
 exact⟨rfl,L1.out.alloc L1.out.size _⟩
theorem put_go (zv:Value) (q ses no:Int) (A:Option Addr) (m c:Nat) (h:Un w zv q (fun w'=>Is w' d la s0 s1)) (h4:Ldd w d la s0 s1 y)
 (h5:∀w',Below w.heap.size w w'→Calls Tryz.prog 69 #[.pointer (some ⟨y,0,none⟩),.int .i64 ses,.int .i64 no,.slice A m c] w' (An x R)) :
 Calls Tryz.prog 22 #[zv,.int .i64 q,.int .i64 ses,.int .i64 no,.slice A m c] w (An x R):=by
 have HU:=Hz (h w (Below.refl _ _))
 have H4:=Hz h4
 have H5:=Hz h5
 clear h h4 h5
 go_enter Tryz.func22,Tryz.ntmps22
 go_wp2_with (first
  | (go_at_call 64;refine HU.out.mono ?_;rintro e w1 ⟨rfl,hb1⟩;have L1:=Hz (hb1.alloc hb1.size (.cells (pcs d la s0 s1).toArray 118));clear hb1)
  | (go_at_call 67;refine (H4.out _ L1.out).mono ?_;rintro e w4 ⟨rfl,hb4⟩;have L4:=Hz (L1.out.trans (hb4.mono L1.out.size));clear hb4)
  | (go_at_call 69;refine (H5.out _ L4.out).mono ?_;rintro e w5 ⟨rfl,hr5⟩;have HR5:=Hz hr5;clear hr5))
 go_ret
 exact⟨rfl,HR5.out⟩
theorem drop_no (zv:Value) (q ses:Int) (hx:x≠0) (h:Sd w zv q ses (fun w'=>No w' x)):Calls Tryz.prog 39 #[zv,.int .i64 q,.int .i64 ses] w (An x (Below w.heap.size w)):=by
 have HU:=Hz (h w (Below.refl _ _))
 clear h
 go_enter Tryz.func39,Tryz.ntmps39
 go_wp2_with (go_at_call 70;refine HU.out.mono ?_;rintro e w1 ⟨rfl,hb1⟩;have L1:=Hz hb1;clear hb1)
 go_ret
 exact⟨rfl,L1.out.alloc L1.out.size _⟩
end
end StoN
end Go.Proofs.YtkepomnbhnnliaaGreatDoor
