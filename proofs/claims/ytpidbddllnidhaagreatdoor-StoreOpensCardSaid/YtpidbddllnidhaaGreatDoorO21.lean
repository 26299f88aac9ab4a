/- Parts of the proof, each under the conditions that it names. -/
import Derived.Test.YtpidbddllnidhaaGreatDoorO20
set_option maxRecDepth 100000
set_option maxHeartbeats 12800000
namespace Go.Proofs.YtpidbddllnidhaaGreatDoor
open Go.RowKit
namespace CpaN3
open CpaM CpaN0 CpaN2
open TabA (Tri Ta Tris)
open TabB (Yes Bx)
open ImgA (Im)
open BitM (hb pw ret_i)
theorem some4 (P:Nat→Prop):∃X,Bits4 P X:=by
 have step:∀(k:Nat) (x:Int),k<4→Acc P k x→∃y,Acc P (k+1) y:=fun k x hk h=>by
  by_cases hp:P k
  ·exact⟨_,h.yes hk hp⟩
  ·exact⟨_,h.no hp⟩
 obtain⟨a,h1⟩:=step 0 0 (by omega) (Acc.zero P)
 obtain⟨b,h2⟩:=step 1 a (by omega) h1
 obtain⟨c,h3⟩:=step 2 b (by omega) h2
 obtain⟨d,h4⟩:=step 3 c (by omega) h3
 exact⟨d,h4.lo,h4.hi,fun j hj=>(h4.bit j hj).trans ⟨fun a=>a.2,fun a=>⟨hj,a⟩⟩⟩
theorem qqv {x:Int} (h0:0≤x) (h1:x≤15):∃s:Fin 16,x=(s.val:Int):=⟨⟨x.toNat,by omega⟩,by show x=((x.toNat:Nat):Int);omega⟩
theorem qwx:∀s t:Fin 16,(∀k:Fin 4,hb (s.val:Int) (k.val:Int)=hb (t.val:Int) (k.val:Int))→s=t:=by decide +kernel
theorem one4 {P:Nat→Prop} {x y:Int} (hx:Bits4 P x) (hy:Bits4 P y):x=y:=by
 have h1:=hx.bit
 have h2:=hy.bit
 obtain⟨s,rfl⟩:=qqv hx.lo hx.hi
 obtain⟨t,rfl⟩:=qqv hy.lo hy.hi
 rw [qwx s t fun k=>by rw [Bool.eq_iff_iff];exact (h1 k.val k.isLt).trans (h2 k.val k.isLt).symm]
theorem qwy:∀s t:Fin 16,(bits .andNot .i64 (s.val:Int) (t.val:Int)=0)↔∀k:Fin 4,hb (s.val:Int) (k.val:Int)=true→hb (t.val:Int) (k.val:Int)=true:=by decide +kernel
theorem not4 {P:Nat→Prop} {s x:Int} (h0:0≤s) (h1:s≤15) (hx:Bits4 P x):bits .andNot .i64 s x=0↔∀k:Nat,k<4→hb s k=true→P k:=by
 have hb2:=hx.bit
 obtain⟨a,rfl⟩:=qqv h0 h1
 obtain⟨t,rfl⟩:=qqv hx.lo hx.hi
 rw [qwy]
 exact⟨fun h k hk hs=>(hb2 k hk).1 (h ⟨k,hk⟩ hs),fun h k hs=>(hb2 k.val k.isLt).2 (h k.val k.isLt hs)⟩
theorem sends_any (t:Ta) (p:Int) (w:World) (ht:t.ok w) :
 Calls Tryz.prog 150 #[t.val,.int .i64 p] w fun e w'=>∃x,e=.returned (.int .i64 x)∧Bw w w'∧(¬(TabD.right t∧0≤p∧p<t.n1)→x=0)∧(TabD.right t∧0≤p∧p<t.n1→Bits4 (From t p) x):=by
 have HX:=Hz (Bx.new w t)
 have HC:=Hz (fun w' (hb:Bw w w')=>ch_from t p w' (ht.below hb))
 obtain⟨fr,A1,n1,c1,P,A2,n2,c2,W,A3,n3,c3,C,tr⟩:=t
 clear ht
 show Calls _ _ #[.agg #[.int .i64 fr,.slice A1 n1 c1,.slice A2 n2 c2,.slice A3 n3 c3,.int .i64 tr],_] w _
 go_enter Tryz.func150,Tryz.ntmps150
 go_wp2_with fail
 refine (HC.o _ HX.o.bel).mono ?_
 rintro e w2 ⟨x,rfl,hb2,h0,h1⟩
 have HX2:=Hz (HX.o.step hb2)
 have H0:=Hz h0
 have H1:=Hz h1
 clear hb2 h0 h1
 go_wp2_with fail
 go_ret
 exact⟨x,rfl,HX2.o.bel,H0.o,H1.o⟩
theorem receives_any (t:Ta) (p:Int) (w:World) (ht:t.ok w) :
 Calls Tryz.prog 151 #[t.val,.int .i64 p] w fun e w'=>∃x,e=.returned (.int .i64 x)∧Bw w w'∧(¬(TabD.right t∧0≤p∧p<t.n1)→x=0)∧(TabD.right t∧0≤p∧p<t.n1→Bits4 (To t p) x):=by
 have HX:=Hz (Bx.new w t)
 have HC:=Hz (fun w' (hb:Bw w w')=>ch_to t p w' (ht.below hb))
 obtain⟨fr,A1,n1,c1,P,A2,n2,c2,W,A3,n3,c3,C,tr⟩:=t
 clear ht
 show Calls _ _ #[.agg #[.int .i64 fr,.slice A1 n1 c1,.slice A2 n2 c2,.slice A3 n3 c3,.int .i64 tr],_] w _
 go_enter Tryz.func151,Tryz.ntmps151
 go_wp2_with fail
 refine (HC.o _ HX.o.bel).mono ?_
 rintro e w2 ⟨x,rfl,hb2,h0,h1⟩
 have HX2:=Hz (HX.o.step hb2)
 have H0:=Hz h0
 have H1:=Hz h1
 clear hb2 h0 h1
 go_wp2_with fail
 go_ret
 exact⟨x,rfl,HX2.o.bel,H0.o,H1.o⟩
theorem q_conn (t:Ta) (q:Nat) (i:Im) (v:Int) (w:World) (ht:t.ok w) (hr:TabD.right t) (hq:q<t.n1) (hs:0≤i.s∧i.s≤15) (hre:0≤i.r∧i.r≤15) (b:Bool) (hb:b=true↔¬PortBad t (q:Int) i) :
 Calls Tryz.prog 109 #[qval t (q:Int) i v] w (Yes w b):=by
 obtain⟨X,hX⟩:=some4 (From t (q:Int))
 obtain⟨Y,hY⟩:=some4 (To t (q:Int))
 have HS:=Hz (fun w' (hb:Bw w w')=>(sends_any t (q:Int) w' (ht.below hb)).mono fun e w2 ⟨x,he,hb,_,h1⟩=>(⟨by rw [he,one4 (h1 ⟨hr,by omega,by omega⟩) hX],hb⟩:e=Ending.returned (.int .i64 X)∧Bw w' w2))
 have HRc:=Hz (fun w' (hb:Bw w w')=>(receives_any t (q:Int) w' (ht.below hb)).mono fun e w2 ⟨x,he,hb,_,h1⟩=>(⟨by rw [he,one4 (h1 ⟨hr,by omega,by omega⟩) hY],hb⟩:e=Ending.returned (.int .i64 Y)∧Bw w' w2))
 have n1':=not4 hs.1 hs.2 hX
 have n2':=not4 hre.1 hre.2 hY
 have hb':b=true↔bits .andNot .i64 i.s X=0∧bits .andNot .i64 i.r Y=0:=by
  rw [hb,n1',n2']
  unfold PortBad
  refine⟨fun h=>⟨fun k hk hh=>?_,fun k hk hh=>?_⟩,fun h ⟨k,hk,hh⟩=>?_⟩
  ·exact Mc_ fun c=>h ⟨k,hk,.inl ⟨hh,c⟩⟩
  ·exact Mc_ fun c=>h ⟨k,hk,.inr ⟨hh,c⟩⟩
  ·rcases hh with⟨a,c⟩|⟨a,c⟩
   ·exact c (h.1 k hk a)
   ·exact c (h.2 k hk a)
 have HN:=Hz (Rq.new w t (q:Int) i v)
 have HB:=Hz hb'
 obtain⟨fr,A1,n1,c1,P,A2,n2,c2,W,A3,n3,c3,C,tr⟩:=t
 obtain⟨ip,iv,ih,im,if_,is_,ir,iA,in_,ic,ixs⟩:=i
 dsimp only at HB
 clear hb hb' n1' n2' hs hre hr hX hY ht hq
 go_enter Tryz.func109,Tryz.ntmps109
 go_upto_region 1 with (fail)
 obtain⟨wB,hwB⟩:∃wB,wB=(w.alloc (.cells #[.int .i64 fr,.slice A1 n1 c1,.slice A2 n2 c2,.slice A3 n3 c3,.int .i64 tr,.int .i64 (q:Int),.int .i64 ip,.int .i64 iv,.int .i64 ih,.int .i64 im,.int .i64 if_,.int .i64 is_,.int .i64 ir,.slice iA in_ ic,.int .i64 v] 131)):=⟨_,rfl⟩
 rw [←hwB]
 have HB0:Hid (Rq w w.heap.size ⟨fr,A1,n1,c1,P,A2,n2,c2,W,A3,n3,c3,C,tr⟩ (q:Int) ⟨ip,iv,ih,im,if_,is_,ir,iA,in_,ic,ixs⟩ v wB):=Hz (by rw [hwB];exact HN.o)
 clear hwB HN
 obtain⟨⟨a0,a1,a2,a3,a4⟩,a5,⟨b0,b1,b2,b3,b4,b5,b6,b7⟩,b8⟩:=HB0.o.cell
 have HBd:=Hz (HB0.o.below ((Mb wB.heap.size wB).drew))
 by_cases g1:bits .andNot .i64 is_ X=0
 ·have e1:(bits .andNot .i64 is_ X==0)=true:=by simpa using g1
  go_region_held3 (fun w'=>w'.cell? ⟨w.heap.size,0,none⟩=some (.int .i64 fr)∧w'.cell? ⟨w.heap.size,1,none⟩=some (.slice A1 n1 c1)∧w'.cell? ⟨w.heap.size,2,none⟩=some (.slice A2 n2 c2)∧w'.cell? ⟨w.heap.size,3,none⟩=some (.slice A3 n3 c3)∧w'.cell? ⟨w.heap.size,4,none⟩=some (.int .i64 tr)∧w'.cell? ⟨w.heap.size,5,none⟩=some (.int .i64 (q:Int))∧w'.cell? ⟨w.heap.size,11,none⟩=some (.int .i64 is_)∧w'.cell? ⟨w.heap.size,12,none⟩=some (.int .i64 ir))
   (first|go_keep|(obtain⟨⟨a0,a1,a2,a3,a4⟩,a5,⟨b0,b1,b2,b3,b4,b5,b6,b7⟩,b8⟩:=HE1.o.cell;exact⟨a0,a1,a2,a3,a4,a5,b5,b6⟩)|(obtain⟨⟨a0,a1,a2,a3,a4⟩,a5,⟨b0,b1,b2,b3,b4,b5,b6,b7⟩,b8⟩:=HE2.o.cell;exact⟨a0,a1,a2,a3,a4,a5,b5,b6⟩))
   (first
    | (go_at_call 150;refine (HS.o _ HBd.o.bel).mono ?_;rintro e xs1 ⟨rfl,hbe⟩;have HE1:=Hz (HBd.o.below hbe);clear hbe)
    | (go_at_call 151;refine (HRc.o _ HE1.o.bel).mono ?_;rintro e xs2 ⟨rfl,hbe⟩;have HE2:=Hz (HE1.o.below hbe);clear hbe))
  all_goals
   go_wp2_with fail
   go_ret
   exact⟨ret_y (by rw [Bool.eq_iff_iff,HB.o];simp [g1]),HE2.o.bel⟩
 ·have e1:(bits .andNot .i64 is_ X==0)=false:=by simpa using g1
  have HBn:=Hz (fun n=>HB0.o.drewN n)
  refine wp_region_any (by kernel_rfl) ?_
  change wpAny _ _ _ _ _ _ _ (World.drew _)
  refine sL (i:=0) (v:=.pointer (some ⟨w.heap.size,6,none⟩)) rfl ?_
  try simp only [tq]
  refine sL (i:=1) (v:=.pointer (some ⟨w.heap.size,11,none⟩)) rfl ?_
  try simp only [tq]
  refine sL (i:=3) (v:=.pointer (some ⟨w.heap.size,0,none⟩)) rfl ?_
  try simp only [tq]
  refine sL (i:=5) (v:=.pointer (some ⟨w.heap.size,5,none⟩)) rfl ?_
  try simp only [tq]
  refine wpAny_ready (rs:=[2,4,6]) (by kernel_rfl) (by simp) ?_
  refine AllReady.cons rfl (fun K hK=>?_) (AllReady.cons rfl (fun K hK=>?_) (AllReady.cons rfl (fun K hK=>?_) (AllReady.nil)))
  focus
   rw [if_pos (by rfl)]
   go_simp
   refine hK _ _ ?_
   clear hK K
   try simp only [tq]
   refine wpAny_ready (rs:=[4,6]) (by kernel_rfl) (by simp) ?_
   refine AllReady.cons rfl (fun K hK=>?_) (AllReady.cons rfl (fun K hK=>?_) (AllReady.nil))
   focus
    rw [if_pos (by rfl)]
    go_simp
    refine hK _ _ ?_
    clear hK K
    try simp only [tq]
    refine wpAny_ready (rs:=[6]) (by kernel_rfl) (by simp) ?_
    refine AllReady.cons rfl (fun K hK=>?_) (AllReady.nil)
    rw [if_pos (by rfl)]
    go_simp
    refine hK _ _ ?_
    clear hK K
    try simp only [tq]
    refine wpAny_ready (rs:=[7]) (by kernel_rfl) (by simp) ?_
    refine AllReady.cons rfl (fun K hK=>?_) (AllReady.nil)
    rw [if_pos (by rfl)]
    go_simp
    refine (HS.o _ (by first|exact HBd.o.bel|exact (HBn.o _).bel)).mono ?_
    rintro e xs1 ⟨rfl,hbe⟩
    have HE1:Hid (Rq w w.heap.size ⟨fr,A1,n1,c1,P,A2,n2,c2,W,A3,n3,c3,C,tr⟩ (q:Int) ⟨ip,iv,ih,im,if_,is_,ir,iA,in_,ic,ixs⟩ v xs1):=Hz (by first|exact HBd.o.below hbe|exact (HBn.o _).below hbe)
    have m11:=HE1.o.cell.2.2.1.2.2.2.2.2.1
    clear hbe
    go_wp2_with fail
    try simp only [tq]
   rotate_left 1
   focus
    rw [if_pos (by rfl)]
    go_simp
    refine hK _ _ ?_
    clear hK K
    try simp only [tq]
    refine wpAny_ready (rs:=[4]) (by kernel_rfl) (by simp) ?_
    refine AllReady.cons rfl (fun K hK=>?_) (AllReady.nil)
    rw [if_pos (by rfl)]
    go_simp
    refine hK _ _ ?_
    clear hK K
    try simp only [tq]
    refine wpAny_ready (rs:=[7]) (by kernel_rfl) (by simp) ?_
    refine AllReady.cons rfl (fun K hK=>?_) (AllReady.nil)
    rw [if_pos (by rfl)]
    go_simp
    refine (HS.o _ (by first|exact HBd.o.bel|exact (HBn.o _).bel)).mono ?_
    rintro e xs1 ⟨rfl,hbe⟩
    have HE1:Hid (Rq w w.heap.size ⟨fr,A1,n1,c1,P,A2,n2,c2,W,A3,n3,c3,C,tr⟩ (q:Int) ⟨ip,iv,ih,im,if_,is_,ir,iA,in_,ic,ixs⟩ v xs1):=Hz (by first|exact HBd.o.below hbe|exact (HBn.o _).below hbe)
    have m11:=HE1.o.cell.2.2.1.2.2.2.2.2.1
    clear hbe
    go_wp2_with fail
    try simp only [tq]
   rotate_left 1
  rotate_left 2
  focus
   rw [if_pos (by rfl)]
   go_simp
   refine hK _ _ ?_
   clear hK K
   try simp only [tq]
   refine wpAny_ready (rs:=[2,6]) (by kernel_rfl) (by simp) ?_
   refine AllReady.cons rfl (fun K hK=>?_) (AllReady.cons rfl (fun K hK=>?_) (AllReady.nil))
   focus
    rw [if_pos (by rfl)]
    go_simp
    refine hK _ _ ?_
    clear hK K
    try simp only [tq]
    refine wpAny_ready (rs:=[6]) (by kernel_rfl) (by simp) ?_
    refine AllReady.cons rfl (fun K hK=>?_) (AllReady.nil)
    rw [if_pos (by rfl)]
    go_simp
    refine hK _ _ ?_
    clear hK K
    try simp only [tq]
    refine wpAny_ready (rs:=[7]) (by kernel_rfl) (by simp) ?_
    refine AllReady.cons rfl (fun K hK=>?_) (AllReady.nil)
    rw [if_pos (by rfl)]
    go_simp
    refine (HS.o _ (by first|exact HBd.o.bel|exact (HBn.o _).bel)).mono ?_
    rintro e xs1 ⟨rfl,hbe⟩
    have HE1:Hid (Rq w w.heap.size ⟨fr,A1,n1,c1,P,A2,n2,c2,W,A3,n3,c3,C,tr⟩ (q:Int) ⟨ip,iv,ih,im,if_,is_,ir,iA,in_,ic,ixs⟩ v xs1):=Hz (by first|exact HBd.o.below hbe|exact (HBn.o _).below hbe)
    have m11:=HE1.o.cell.2.2.1.2.2.2.2.2.1
    clear hbe
    go_wp2_with fail
    try simp only [tq]
   rotate_left 1
   focus
    rw [if_pos (by rfl)]
    go_simp
    refine hK _ _ ?_
    clear hK K
    try simp only [tq]
    refine wpAny_ready (rs:=[2,7]) (by kernel_rfl) (by simp) ?_
    refine AllReady.cons rfl (fun K hK=>?_) (AllReady.cons rfl (fun K hK=>?_) (AllReady.nil))
    focus
     rw [if_pos (by rfl)]
     go_simp
     refine hK _ _ ?_
     clear hK K
     try simp only [tq]
     refine wpAny_ready (rs:=[7]) (by kernel_rfl) (by simp) ?_
     refine AllReady.cons rfl (fun K hK=>?_) (AllReady.nil)
     rw [if_pos (by rfl)]
     go_simp
     refine (HS.o _ (by first|exact HBd.o.bel|exact (HBn.o _).bel)).mono ?_
     rintro e xs1 ⟨rfl,hbe⟩
     have HE1:Hid (Rq w w.heap.size ⟨fr,A1,n1,c1,P,A2,n2,c2,W,A3,n3,c3,C,tr⟩ (q:Int) ⟨ip,iv,ih,im,if_,is_,ir,iA,in_,ic,ixs⟩ v xs1):=Hz (by first|exact HBd.o.below hbe|exact (HBn.o _).below hbe)
     have m11:=HE1.o.cell.2.2.1.2.2.2.2.2.1
     clear hbe
     go_wp2_with fail
     try simp only [tq]
    rotate_left 1
    focus
     rw [if_pos (by rfl)]
     go_simp
     refine (HS.o _ (by first|exact HBd.o.bel|exact (HBn.o _).bel)).mono ?_
     rintro e xs1 ⟨rfl,hbe⟩
     have HE1:Hid (Rq w w.heap.size ⟨fr,A1,n1,c1,P,A2,n2,c2,W,A3,n3,c3,C,tr⟩ (q:Int) ⟨ip,iv,ih,im,if_,is_,ir,iA,in_,ic,ixs⟩ v xs1):=Hz (by first|exact HBd.o.below hbe|exact (HBn.o _).below hbe)
     have m11:=HE1.o.cell.2.2.1.2.2.2.2.2.1
     clear hbe
     go_wp2_with fail
     try simp only [tq]
     refine wpAny_ready (rs:=[2]) (by kernel_rfl) (by simp) ?_
     refine AllReady.cons rfl (fun K hK=>?_) (AllReady.nil)
     rw [if_pos (by rfl)]
     go_simp
     refine hK _ _ ?_
     clear hK K
     try simp only [tq]
    rotate_left 1
   rotate_left 2
  rotate_left 3
  focus
   rw [if_pos (by rfl)]
   go_simp
   refine hK _ _ ?_
   clear hK K
   try simp only [tq]
   refine wpAny_ready (rs:=[2,4]) (by kernel_rfl) (by simp) ?_
   refine AllReady.cons rfl (fun K hK=>?_) (AllReady.cons rfl (fun K hK=>?_) (AllReady.nil))
   focus
    rw [if_pos (by rfl)]
    go_simp
    refine hK _ _ ?_
    clear hK K
    try simp only [tq]
    refine wpAny_ready (rs:=[4]) (by kernel_rfl) (by simp) ?_
    refine AllReady.cons rfl (fun K hK=>?_) (AllReady.nil)
    rw [if_pos (by rfl)]
    go_simp
    refine hK _ _ ?_
    clear hK K
    try simp only [tq]
    refine wpAny_ready (rs:=[7]) (by kernel_rfl) (by simp) ?_
    refine AllReady.cons rfl (fun K hK=>?_) (AllReady.nil)
    rw [if_pos (by rfl)]
    go_simp
    refine (HS.o _ (by first|exact HBd.o.bel|exact (HBn.o _).bel)).mono ?_
    rintro e xs1 ⟨rfl,hbe⟩
    have HE1:Hid (Rq w w.heap.size ⟨fr,A1,n1,c1,P,A2,n2,c2,W,A3,n3,c3,C,tr⟩ (q:Int) ⟨ip,iv,ih,im,if_,is_,ir,iA,in_,ic,ixs⟩ v xs1):=Hz (by first|exact HBd.o.below hbe|exact (HBn.o _).below hbe)
    have m11:=HE1.o.cell.2.2.1.2.2.2.2.2.1
    clear hbe
    go_wp2_with fail
    try simp only [tq]
   rotate_left 1
   focus
    rw [if_pos (by rfl)]
    go_simp
    refine hK _ _ ?_
    clear hK K
    try simp only [tq]
    refine wpAny_ready (rs:=[2,7]) (by kernel_rfl) (by simp) ?_
    refine AllReady.cons rfl (fun K hK=>?_) (AllReady.cons rfl (fun K hK=>?_) (AllReady.nil))
    focus
     rw [if_pos (by rfl)]
     go_simp
     refine hK _ _ ?_
     clear hK K
     try simp only [tq]
     refine wpAny_ready (rs:=[7]) (by kernel_rfl) (by simp) ?_
     refine AllReady.cons rfl (fun K hK=>?_) (AllReady.nil)
     rw [if_pos (by rfl)]
     go_simp
     refine (HS.o _ (by first|exact HBd.o.bel|exact (HBn.o _).bel)).mono ?_
     rintro e xs1 ⟨rfl,hbe⟩
     have HE1:Hid (Rq w w.heap.size ⟨fr,A1,n1,c1,P,A2,n2,c2,W,A3,n3,c3,C,tr⟩ (q:Int) ⟨ip,iv,ih,im,if_,is_,ir,iA,in_,ic,ixs⟩ v xs1):=Hz (by first|exact HBd.o.below hbe|exact (HBn.o _).below hbe)
     have m11:=HE1.o.cell.2.2.1.2.2.2.2.2.1
     clear hbe
     go_wp2_with fail
     try simp only [tq]
    rotate_left 1
    focus
     rw [if_pos (by rfl)]
     go_simp
     refine (HS.o _ (by first|exact HBd.o.bel|exact (HBn.o _).bel)).mono ?_
     rintro e xs1 ⟨rfl,hbe⟩
     have HE1:Hid (Rq w w.heap.size ⟨fr,A1,n1,c1,P,A2,n2,c2,W,A3,n3,c3,C,tr⟩ (q:Int) ⟨ip,iv,ih,im,if_,is_,ir,iA,in_,ic,ixs⟩ v xs1):=Hz (by first|exact HBd.o.below hbe|exact (HBn.o _).below hbe)
     have m11:=HE1.o.cell.2.2.1.2.2.2.2.2.1
     clear hbe
     go_wp2_with fail
     try simp only [tq]
     refine wpAny_ready (rs:=[2]) (by kernel_rfl) (by simp) ?_
     refine AllReady.cons rfl (fun K hK=>?_) (AllReady.nil)
     rw [if_pos (by rfl)]
     go_simp
     refine hK _ _ ?_
     clear hK K
     try simp only [tq]
    rotate_left 1
   rotate_left 2
  rotate_left 3
  all_goals
   refine sL (i:=8) (v:=.int .i64 (bits .andNot .i64 is_ X)) rfl ?_
   try simp only [tq]
   refine sL (i:=9) (v:=.bool false) rfl ?_
   try simp only [tq]
   refine sL (i:=10) (v:=.bool false) rfl ?_
   try simp only [tq]
   refine sK (i:=11) (v:=undef) rfl ?_
   try simp only [tq]
   refine sK (i:=12) (v:=undef) rfl ?_
   try simp only [tq]
   refine sK (i:=13) (v:=undef) rfl ?_
   try simp only [tq]
   refine sK (i:=14) (v:=undef) rfl ?_
   try simp only [tq]
   refine sK (i:=15) (v:=undef) rfl ?_
   try simp only [tq]
   refine sK (i:=16) (v:=undef) rfl ?_
   try simp only [tq]
   refine sK (i:=17) (v:=undef) rfl ?_
   try simp only [tq]
   refine sK (i:=18) (v:=undef) rfl ?_
   try simp only [tq]
   refine sK (i:=19) (v:=undef) rfl ?_
   try simp only [tq]
   refine sK (i:=20) (v:=undef) rfl ?_
   try simp only [tq]
   refine sL (i:=21) (v:=.bool false) rfl ?_
   try simp only [tq]
   refine sL (i:=22) (v:=.bool false) rfl ?_
   try simp only [tq]
   refine wpAny_done (by kernel_rfl) ?_ _
   go_wp2_with fail
   go_ret
   exact⟨ret_y (by rw [Bool.eq_iff_iff,HB.o];simp [g1]),HE1.o.bel⟩
end CpaN3
end Go.Proofs.YtpidbddllnidhaaGreatDoor
