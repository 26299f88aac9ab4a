/- Parts of the proof, each under the conditions that it names. -/
import Derived.Test.YtpidbddllnidhaaGreatDoorO13
import Derived.Lib.ConvBytes
set_option maxRecDepth 100000
set_option maxHeartbeats 12800000
namespace Go.Proofs.YtpidbddllnidhaaGreatDoor
open Go.RowKit
namespace LayF
open Mem CpaM
open TabA (Tri Ta)
open TabB (Yes)
open ImgA (Im)
open StoR (Ims im0)
open Lay (Ly I64)
def Fit1 (t:Ta) (p:Nat) (i:Im):Prop:=∀br bi bx,Tri3 br bi bx t (p:Int) i→chk br bi bx t (p:Int) i 0=0
theorem fit1_of {t:Ta} {p:Nat} {i:Im} {br bi bx:Bool} (h:Tri3 br bi bx t (p:Int) i):Fit1 t p i↔chk br bi bx t (p:Int) i 0=0:=by
 refine⟨fun h2=>h2 br bi bx h,fun h2 br' bi' bx' h3=>?_⟩
 have e1:br'=br:=by rw [Bool.eq_iff_iff,h3.rt,h.rt]
 have e2:bi'=bi:=by rw [Bool.eq_iff_iff,h3.ri,h.ri]
 have e3:bx'=bx:=by rw [Bool.eq_iff_iff,h3.rx,h.rx]
 rw [e1,e2,e3]
 exact h2
def Fit (y:Ly):Prop:=TabD.right y.t∧y.t.n1≤y.n∧y.n≤10∧(∀p,p<y.t.n1→Fit1 y.t p (y.L.getD p im0))∧∀k,k<y.n→(y.L.getD k im0).n≤200
def ycells (y:Ly):List Value:=[.int .i64 y.t.fr,.slice y.t.A1 y.t.n1 y.t.c1,.slice y.t.A2 y.t.n2 y.t.c2,.slice y.t.A3 y.t.n3 y.t.c3,.int .i64 y.t.tr,.slice y.A y.n y.c]
structure Bx (w:World) (y:Ly) (wr:World):Prop where
 blk:Blk wr w.heap.size 29 (ycells y)
 bel:Bw w wr
section
variable {w wr w':World} {y:Ly}
theorem Bx.new (w:World) (y:Ly):Bx w y (w.alloc (.cells (ycells y).toArray 29)):=⟨Blk.new w _ _,(Mb _ _).alloc (Mr _) _⟩
theorem Bx.below (h:Bx w y wr) (hb:Bw wr w'):Bx w y w':=⟨h.blk.below hb,h.bel.trans (hb.mono h.bel.size)⟩
theorem Bx.cell (h:Bx w y wr):wr.cell? ⟨w.heap.size,0,none⟩=some (.int .i64 y.t.fr)∧wr.cell? ⟨w.heap.size,1,none⟩=some (.slice y.t.A1 y.t.n1 y.t.c1)∧wr.cell? ⟨w.heap.size,2,none⟩=some (.slice y.t.A2 y.t.n2 y.t.c2)∧wr.cell? ⟨w.heap.size,3,none⟩=some (.slice y.t.A3 y.t.n3 y.t.c3)∧wr.cell? ⟨w.heap.size,4,none⟩=some (.int .i64 y.t.tr)∧wr.cell? ⟨w.heap.size,5,none⟩=some (.slice y.A y.n y.c):=
 ⟨h.blk.cell rfl,h.blk.cell rfl,h.blk.cell rfl,h.blk.cell rfl,h.blk.cell rfl,h.blk.cell rfl⟩
end
theorem fits_any (y:Ly) (w:World) (h:y.ok w) (b:Bool) (hb:b=true↔Fit y):Calls Tryz.prog 15 #[y.val] w (Yes w b):=by
 obtain⟨br,hbr⟩:=TabD.Q2 (TabD.right y.t)
 have HRR:=Hz (fun w' (hb:Bw w w')=>TabK.Vu y.t w' (h.t.below hb) br hbr)
 have hlen:=h.L.len
 have HAt:=Hz (fun k (hk:k<y.n)=>h.L.at_ k hk)
 have hmem:∀k,k<y.n→y.L.getD k im0 ∈ y.L:=fun k hk=>by
  rw [Mg,Mq (by rw [hlen];exact hk)]
  exact Me_ _
 have HCh:=Hz (fun k (hk:k<y.n) br bi bx (h3:Tri3 br bi bx y.t (k:Int) (y.L.getD k im0)) w' (hb:Bw w w')=>CpaA.Ky y.t (k:Int) 0 (y.L.getD k im0) w' (h.t.below hb) ((h.L.ok _ (hmem k hk)).below hb) br bi bx h3)
 have hn1:=h.t.P.le
 have hle:=h.L.le
 have HF:=Hz (show ∀q:Prop,(Fit y→q)→¬q→b=false from fun q h1 h2=>by rw [Bool.eq_false_iff];exact fun e=>h2 (h1 (hb.1 e)))
 have HT:=Hz (show Fit y→b=true from hb.2)
 have HBR:=Hz hbr
 have HB0:=Hz (Bx.new w y)
 clear h hb hbr hmem hlen
 obtain⟨⟨fr,A1,n1,c1,P,A2,n2,c2,W,A3,n3,c3,C,tr⟩,A,n,c,L⟩:=y
 dsimp only at hn1 hle
 obtain⟨hle1,hle2⟩:=hle
 show Calls _ _ #[.agg #[.int .i64 fr,.slice A1 n1 c1,.slice A2 n2 c2,.slice A3 n3 c3,.int .i64 tr,.slice A n c]] w _
 go_enter Tryz.func15,Tryz.ntmps15
 go_wp2_with fail
 refine (HRR.o _ HB0.o.bel).mono ?_
 rintro e w2 ⟨rfl,hb2⟩
 have HB2:=Hz (HB0.o.below hb2)
 clear hb2 HB0 HRR
 obtain⟨a0,a1,a2,a3,a4,a5⟩:=HB2.o.cell
 dsimp only at a0 a1 a2 a3 a4 a5
 cases br with
 | false=>
   have HE:=Hz (HF.o _ (fun h=>h.1) (fun h=>by have:=HBR.o.2 h;cases this))
   go_wp2_with fail
   go_ret
   exact⟨by rw [HE.o];rfl,HB2.o.bel⟩
 | true=>
   by_cases h1:n<n1
   ·have HE:=Hz (HF.o _ (fun h=>h.2.1) (show ¬n1≤n by omega))
    go_wp2_with fail
    go_ret
    exact⟨by rw [HE.o];rfl,HB2.o.bel⟩
   by_cases h2:10<n
   ·have HE:=Hz (HF.o _ (fun h=>h.2.2.1) (show ¬n≤10 by omega))
    go_wp2_with fail
    go_ret
    exact⟨by rw [HE.o];rfl,HB2.o.bel⟩
   go_wp2_with fail
   clear a0 a1 a2 a3 a4 a5
   go_loopw [30] (fun i wr=>∃k:Nat,k≤n1∧i=.int .i64 (k:Nat)∧Hid (∀p,p<k→Fit1 ⟨fr,A1,n1,c1,P,A2,n2,c2,W,A3,n3,c3,C,tr⟩ p (L.getD p im0))∧Hid (Bx w ⟨⟨fr,A1,n1,c1,P,A2,n2,c2,W,A3,n3,c3,C,tr⟩,A,n,c,L⟩ wr)) (fun i _=>n1-(intOf i).toNat)
   case atStart=>exact⟨0,Nat.zero_le _,rfl,Hz (fun p hp=>absurd hp (by omega)),HB2⟩
   case round=>
    obtain⟨k,hk,rfl,HU,HBx⟩:=hrel
    clear HB2
    obtain⟨a0,a1,a2,a3,a4,a5⟩:=HBx.o.cell
    dsimp only at a0 a1 a2 a3 a4 a5
    by_cases hlt:k<n1
    ·obtain⟨bi,oi,hA,hbl,hcell⟩:=HAt.o k (by show k<n;omega)
     subst hA
     have HCl:=Hz (fun (w':World) (hb:Bw w w') i v (h:(L.getD k im0).cells[i]?=some v)=>(hb.cell (p:=⟨bi,oi+k*8+i,none⟩) hbl).trans (hcell i v h))
     obtain⟨br,bi',bx,h3⟩:=tri3 ⟨fr,A1,n1,c1,P,A2,n2,c2,W,A3,n3,c3,C,tr⟩ (k:Int) (L.getD k im0)
     have HCK:=Hz (HCh.o k (by show k<n;omega) br bi' bx h3)
     have HFK:=Hz (fit1_of h3)
     clear hcell h3
     have HIM:=Hz (fun h=>HU.o k h)
     clear HIM
     obtain⟨im,him⟩:∃im,im=L.getD k im0:=⟨_,rfl⟩
     have HIM:=Hz him
     rw [←him] at HCl HCK HFK
     clear him
     obtain⟨ck,hck⟩:∃ck,ck=chk br bi' bx ⟨fr,A1,n1,c1,P,A2,n2,c2,W,A3,n3,c3,C,tr⟩ (k:Int) im 0:=⟨_,rfl⟩
     rw [←hck] at HCK HFK
     clear hck
     obtain⟨ip,iv,ih,imm,if_,is_,ir,iA,in_,ic,ixs⟩:=im
     have z0:=HCl.o wr HBx.o.bel 0 _ rfl
     have z1:=HCl.o wr HBx.o.bel 1 _ rfl
     have z2:=HCl.o wr HBx.o.bel 2 _ rfl
     have z3:=HCl.o wr HBx.o.bel 3 _ rfl
     have z4:=HCl.o wr HBx.o.bel 4 _ rfl
     have z5:=HCl.o wr HBx.o.bel 5 _ rfl
     have z6:=HCl.o wr HBx.o.bel 6 _ rfl
     have z7:=HCl.o wr HBx.o.bel 7 _ rfl
     rw [Nat.add_zero] at z0
     dsimp only at z0 z1 z2 z3 z4 z5 z6 z7
     have hkn:k<n:=by omega
     by_cases hc0:ck=0
     ·subst hc0
      have HU2:=Hz (show ∀p,p<k+1→Fit1 ⟨fr,A1,n1,c1,P,A2,n2,c2,W,A3,n3,c3,C,tr⟩ p (L.getD p im0) from fun p hp=>by
       by_cases e:p=k
       ·rw [e,←HIM.o];exact HFK.o.2 rfl
       ·exact HU.o p (by omega))
      go_upto_region 6 with (fail)
      refine wp_region_any (by kernel_rfl) ?_
      change wpAny _ _ _ _ _ _ _ (World.drew _)
      refine sL (i:=0) (v:=.pointer (some ⟨w.heap.size,0,none⟩)) rfl ?_
      try simp only [tq]
      refine sL (i:=2) (v:=.int .i64 (k:Nat)) rfl ?_
      try simp only [tq]
      refine sL (i:=3) (v:=.pointer (some ⟨w.heap.size,5,none⟩)) rfl ?_
      try simp only [tq]
      refine sL (i:=5) (v:=.int .i64 (k:Nat)) rfl ?_
      try simp only [tq]
      refine wpAny_ready (rs:=[1,4]) (by kernel_rfl) (by simp) ?_
      refine AllReady.cons rfl (fun K hK=>?_) (AllReady.cons rfl (fun K hK=>?_) (AllReady.nil))
      focus
       rw [if_pos (by rfl)]
       go_simp
       refine hK _ _ ?_
       clear hK K
       try simp only [tq]
       refine wpAny_ready (rs:=[4]) (by kernel_rfl) (by simp) ?_
       refine AllReady.cons rfl (fun K hK=>?_) (AllReady.nil)
       rw [if_pos (by rfl)]
       go_simp
       refine hK _ _ ?_
       clear hK K
       try simp only [tq]
       refine sL (i:=6) (v:=.pointer (some ⟨bi,oi+k*8,none⟩)) rfl ?_
       try simp only [tq]
       refine wpAny_ready (rs:=[7]) (by kernel_rfl) (by simp) ?_
       refine AllReady.cons rfl (fun K hK=>?_) (AllReady.nil)
       rw [if_pos (by rfl)]
       go_simp
       refine hK _ _ ?_
       clear hK K
       try simp only [tq]
      rotate_left 1
      focus
       rw [if_pos (by rfl)]
       go_simp
       refine hK _ _ ?_
       clear hK K
       try simp only [tq]
       refine sL (i:=6) (v:=.pointer (some ⟨bi,oi+k*8,none⟩)) rfl ?_
       try simp only [tq]
       refine wpAny_ready (rs:=[1,7]) (by kernel_rfl) (by simp) ?_
       refine AllReady.cons rfl (fun K hK=>?_) (AllReady.cons rfl (fun K hK=>?_) (AllReady.nil))
       focus
        rw [if_pos (by rfl)]
        go_simp
        refine hK _ _ ?_
        clear hK K
        try simp only [tq]
        refine wpAny_ready (rs:=[7]) (by kernel_rfl) (by simp) ?_
        refine AllReady.cons rfl (fun K hK=>?_) (AllReady.nil)
        rw [if_pos (by rfl)]
        go_simp
        refine hK _ _ ?_
        clear hK K
        try simp only [tq]
       rotate_left 1
       focus
        rw [if_pos (by rfl)]
        go_simp
        refine hK _ _ ?_
        clear hK K
        try simp only [tq]
        refine wpAny_ready (rs:=[1]) (by kernel_rfl) (by simp) ?_
        refine AllReady.cons rfl (fun K hK=>?_) (AllReady.nil)
        rw [if_pos (by rfl)]
        go_simp
        refine hK _ _ ?_
        clear hK K
        try simp only [tq]
       rotate_left 1
      rotate_left 2
      all_goals
       refine wpAny_ready (rs:=[8]) (by kernel_rfl) (by simp) ?_
       refine AllReady.cons rfl (fun K hK=>?_) (AllReady.nil)
       rw [if_pos (by rfl)]
       go_simp
       refine (HCK.o _ (by first|exact HBx.o.bel.drew|exact (HBx.o.drewN _).bel)).mono ?_
       rintro e w5 ⟨rfl,hb5⟩
       have HB5:Hid (Bx w ⟨⟨fr,A1,n1,c1,P,A2,n2,c2,W,A3,n3,c3,C,tr⟩,some ⟨bi,oi,none⟩,n,c,L⟩ w5):=Hz (by first|exact HBx.o.below (((Mb _ _).drew).trans hb5)|exact (HBx.o.drewN _).below hb5)
       clear hb5
       go_wp2_with fail
       try simp only [tq]
       refine sL (i:=9) (v:=.bool false) rfl ?_
       try simp only [tq]
       refine wpAny_done (by kernel_rfl) ?_ _
       go_wp2_with fail
       go_roundw
       case rel=>exact⟨k+1,by omega,by go_num,HU2,HB5⟩
       case measure=>simp [intOf];omega
     ·have hcb:(ck != 0)=true:=by simpa using hc0
      have HE:=Hz (HF.o _ (fun h=>h.2.2.2.1 k hlt) (show ¬Fit1 ⟨fr,A1,n1,c1,P,A2,n2,c2,W,A3,n3,c3,C,tr⟩ k (L.getD k im0) from fun h=>by rw [←HIM.o] at h;exact hc0 (HFK.o.1 h)))
      go_upto_region 6 with (fail)
      refine wp_region_any (by kernel_rfl) ?_
      change wpAny _ _ _ _ _ _ _ (World.drew _)
      refine sL (i:=0) (v:=.pointer (some ⟨w.heap.size,0,none⟩)) rfl ?_
      try simp only [tq]
      refine sL (i:=2) (v:=.int .i64 (k:Nat)) rfl ?_
      try simp only [tq]
      refine sL (i:=3) (v:=.pointer (some ⟨w.heap.size,5,none⟩)) rfl ?_
      try simp only [tq]
      refine sL (i:=5) (v:=.int .i64 (k:Nat)) rfl ?_
      try simp only [tq]
      refine wpAny_ready (rs:=[1,4]) (by kernel_rfl) (by simp) ?_
      refine AllReady.cons rfl (fun K hK=>?_) (AllReady.cons rfl (fun K hK=>?_) (AllReady.nil))
      focus
       rw [if_pos (by rfl)]
       go_simp
       refine hK _ _ ?_
       clear hK K
       try simp only [tq]
       refine wpAny_ready (rs:=[4]) (by kernel_rfl) (by simp) ?_
       refine AllReady.cons rfl (fun K hK=>?_) (AllReady.nil)
       rw [if_pos (by rfl)]
       go_simp
       refine hK _ _ ?_
       clear hK K
       try simp only [tq]
       refine sL (i:=6) (v:=.pointer (some ⟨bi,oi+k*8,none⟩)) rfl ?_
       try simp only [tq]
       refine wpAny_ready (rs:=[7]) (by kernel_rfl) (by simp) ?_
       refine AllReady.cons rfl (fun K hK=>?_) (AllReady.nil)
       rw [if_pos (by rfl)]
       go_simp
       refine hK _ _ ?_
       clear hK K
       try simp only [tq]
      rotate_left 1
      focus
       rw [if_pos (by rfl)]
       go_simp
       refine hK _ _ ?_
       clear hK K
       try simp only [tq]
       refine sL (i:=6) (v:=.pointer (some ⟨bi,oi+k*8,none⟩)) rfl ?_
       try simp only [tq]
       refine wpAny_ready (rs:=[1,7]) (by kernel_rfl) (by simp) ?_
       refine AllReady.cons rfl (fun K hK=>?_) (AllReady.cons rfl (fun K hK=>?_) (AllReady.nil))
       focus
        rw [if_pos (by rfl)]
        go_simp
        refine hK _ _ ?_
        clear hK K
        try simp only [tq]
        refine wpAny_ready (rs:=[7]) (by kernel_rfl) (by simp) ?_
        refine AllReady.cons rfl (fun K hK=>?_) (AllReady.nil)
        rw [if_pos (by rfl)]
        go_simp
        refine hK _ _ ?_
        clear hK K
        try simp only [tq]
       rotate_left 1
       focus
        rw [if_pos (by rfl)]
        go_simp
        refine hK _ _ ?_
        clear hK K
        try simp only [tq]
        refine wpAny_ready (rs:=[1]) (by kernel_rfl) (by simp) ?_
        refine AllReady.cons rfl (fun K hK=>?_) (AllReady.nil)
        rw [if_pos (by rfl)]
        go_simp
        refine hK _ _ ?_
        clear hK K
        try simp only [tq]
       rotate_left 1
      rotate_left 2
      all_goals
       refine wpAny_ready (rs:=[8]) (by kernel_rfl) (by simp) ?_
       refine AllReady.cons rfl (fun K hK=>?_) (AllReady.nil)
       rw [if_pos (by rfl)]
       go_simp
       refine (HCK.o _ (by first|exact HBx.o.bel.drew|exact (HBx.o.drewN _).bel)).mono ?_
       rintro e w5 ⟨rfl,hb5⟩
       have HB5:Hid (Bx w ⟨⟨fr,A1,n1,c1,P,A2,n2,c2,W,A3,n3,c3,C,tr⟩,some ⟨bi,oi,none⟩,n,c,L⟩ w5):=Hz (by first|exact HBx.o.below (((Mb _ _).drew).trans hb5)|exact (HBx.o.drewN _).below hb5)
       clear hb5
       go_wp2_with fail
       try simp only [tq]
       refine sL (i:=9) (v:=.bool true) rfl ?_
       try simp only [tq]
       refine wpAny_done (by kernel_rfl) ?_ _
       go_wp2_with fail
       go_ret
       exact⟨by rw [HE.o];rfl,HB5.o.bel⟩
    ·obtain rfl:k=n1:=by omega
     go_wp2_with fail
     clear a0 a1 a2 a3 a4 a5
     go_loopw [47] (fun i wr=>∃q:Nat,q≤n∧i=.int .i64 (q:Nat)∧Hid (∀j,j<q→(L.getD j im0).n≤200)∧Hid (Bx w ⟨⟨fr,A1,k,c1,P,A2,n2,c2,W,A3,n3,c3,C,tr⟩,A,n,c,L⟩ wr)) (fun i _=>n-(intOf i).toNat)
     case atStart=>exact⟨0,Nat.zero_le _,rfl,Hz (fun p hp=>absurd hp (by omega)),HBx⟩
     case round=>
      obtain⟨q,hq,rfl,HV,HBy⟩:=hrel
      clear HBx
      by_cases hlq:q<n
      ·obtain⟨bi,oi,hA,hbl,hcell⟩:=HAt.o q hlq
       subst hA
       have HCl:=Hz (fun (w':World) (hb:Bw w w') i v (h:(L.getD q im0).cells[i]?=some v)=>(hb.cell (p:=⟨bi,oi+q*8+i,none⟩) hbl).trans (hcell i v h))
       clear hcell
       obtain⟨im,him⟩:∃im,im=L.getD q im0:=⟨_,rfl⟩
       have HIM:=Hz him
       rw [←him] at HCl
       clear him
       obtain⟨ip,iv,ih,imm,if_,is_,ir,iA,in_,ic,ixs⟩:=im
       have z0:=HCl.o wr HBy.o.bel 0 _ rfl
       have z1:=HCl.o wr HBy.o.bel 1 _ rfl
       have z2:=HCl.o wr HBy.o.bel 2 _ rfl
       have z3:=HCl.o wr HBy.o.bel 3 _ rfl
       have z4:=HCl.o wr HBy.o.bel 4 _ rfl
       have z5:=HCl.o wr HBy.o.bel 5 _ rfl
       have z6:=HCl.o wr HBy.o.bel 6 _ rfl
       have z7:=HCl.o wr HBy.o.bel 7 _ rfl
       rw [Nat.add_zero] at z0
       dsimp only at z0 z1 z2 z3 z4 z5 z6 z7
       by_cases h200:200<in_
       ·have HE:=Hz (HF.o _ (fun h=>h.2.2.2.2 q hlq) (show ¬(L.getD q im0).n≤200 from fun h=>by rw [←HIM.o] at h;exact absurd h (by show ¬in_≤200;omega)))
        go_wp2_with fail
        go_ret
        exact⟨by rw [HE.o];rfl,(HBy.o.below ((Mb _ _).alloc (Mr _) _)).bel⟩
       ·go_wp2_with fail
        go_roundw
        case rel=>exact⟨q+1,by omega,by go_num,Hz (fun j hj=>by
         by_cases e:j=q
         ·rw [e,←HIM.o];show in_≤200;omega
         ·exact HV.o j (by omega)),Hz (HBy.o.below ((Mb _ _).alloc (Mr _) _))⟩
        case measure=>simp [intOf];omega
      ·obtain rfl:q=n:=by omega
       have HE:=Hz (HT.o ⟨HBR.o.1 (by first|trivial|rfl),by show k≤q;omega,by show q≤10;omega,fun p hp=>HU.o p hp,fun j hj=>HV.o j hj⟩)
       go_wp2_with fail
       go_ret
       exact⟨by rw [HE.o];rfl,HBy.o.bel⟩
end LayF
namespace RecG
open Kit RecM RecA
theorem below_drewN {B:Nat} {w w':World} (h:Below B w w') (n:Nat):Below B w (w'.drewN n):=⟨h.os,h.tape,h.output,h.size,h.block⟩
def inn (n l m:Int):Bool:=decide (l≤n∧n≤m)
theorem inn_true {n l m:Int} (h:inn n l m=true):l≤n∧n≤m:=by simpa [inn] using h
theorem inn_false {n l m:Int} (h:inn n l m=false) : ¬(l≤n∧n≤m):=by simpa [inn] using h
theorem within_any (n l m:Int) (w:World):Calls Tryz.prog 80 #[.int .i64 n,.int .i64 l,.int .i64 m] w fun e w'=>e=.returned (.bool (inn n l m))∧w=w':=by
 unfold inn
 by_cases h:l≤n
 ·go_enter Tryz.func80,Tryz.ntmps80
  go_wp2
  go_ret
  exact⟨Q3 (by simp [h]),rfl⟩
 ·have h' : ¬(l≤n):=h
  go_enter Tryz.func80,Tryz.ntmps80
  go_wp2
  go_ret
  exact⟨Q3 (by rw [Bool.eq_iff_iff];simp;omega),rfl⟩
theorem within_eq {n l m:Int} {b:Bool} (h:inn n l m=b) (w:World):Calls Tryz.prog 80 #[.int .i64 n,.int .i64 l,.int .i64 m] w fun e w'=>e=.returned (.bool b)∧w=w':=h▸within_any n l m w
theorem Q1 {n l m:Int} {b:Bool} (h:inn n l m=b) (w:World):Calls Tryz.prog 80 #[.int .i64 n,.int .i64 l,.int .i64 m] w fun e w'=>e=.returned (.bool b)∧w'=w:=(within_eq h w).mono fun _ _ h=>⟨h.1,h.2.symm⟩
theorem Bx.six {w wr:World} {g:Nat} {t':TypeId} {p q a c l t:Int} (h:Bx w g t' (rcells ⟨p,q,a,c,l,t⟩) wr):wr.cell? ⟨g,0,none⟩=some (.int .i64 p)∧wr.cell? ⟨g,1,none⟩=some (.int .i64 q)∧wr.cell? ⟨g,2,none⟩=some (.int .i64 a)∧wr.cell? ⟨g,3,none⟩=some (.int .i64 c)∧wr.cell? ⟨g,4,none⟩=some (.int .i64 l)∧wr.cell? ⟨g,5,none⟩=some (.int .i64 t):=⟨h.blk.cell (i:=0) rfl,h.blk.cell (i:=1) rfl,h.blk.cell (i:=2) rfl,h.blk.cell (i:=3) rfl,h.blk.cell (i:=4) rfl,h.blk.cell (i:=5) rfl⟩
def most (a c:Int):Int:=if a=c then 0 else 7
theorem U6 (p q a c l t:Int) (w:World):Calls Tryz.prog 160 #[.agg #[.int .i64 p,.int .i64 q,.int .i64 a,.int .i64 c,.int .i64 l,.int .i64 t]] w fun e w'=>e=.returned (.int .i64 (most a c))∧Bw w w':=by
 have HX:=Hz (Bx.new w 66 (rcells ⟨p,q,a,c,l,t⟩))
 by_cases e:a=c
 ·have HM:=Hz (show most a c=0 from if_pos e)
  subst e
  go_enter Tryz.func160,Tryz.ntmps160
  go_wp2
  go_ret
  exact⟨by rw [HM.o];rfl,HX.o.bel⟩
 ·have HM:=Hz (show most a c=7 from if_neg e)
  have e':(a==c)=false:=by simpa using e
  go_enter Tryz.func160,Tryz.ntmps160
  go_wp2
  go_ret
  exact⟨by rw [HM.o];rfl,HX.o.bel⟩
def need (a c:Int):Int:=if a=0 then (if c=0 then 1 else 3) else if c=0 then 3 else 2
theorem qwc (p q a c l t:Int) (w:World) (ha:a=0∨a=1) (hc:c=0∨c=1):Calls Tryz.prog 161 #[.agg #[.int .i64 p,.int .i64 q,.int .i64 a,.int .i64 c,.int .i64 l,.int .i64 t]] w fun e w'=>e=.returned (.int .i64 (need a c))∧Bw w w':=by
 have HX:=Hz (Bx.new w 66 (rcells ⟨p,q,a,c,l,t⟩))
 rcases ha with rfl|rfl <;> rcases hc with rfl|rfl
 all_goals
  go_enter Tryz.func161,Tryz.ntmps161
  go_wp2
  go_quiet (fail)
  go_wp2
  go_ret
  exact⟨Qg (by first|rfl|decide),below_drewN HX.o.bel _⟩
theorem qwd {t a c:Int} (ht:0≤t∧t≤3) (ha:a=0∨a=1) (hc:c=0∨c=1):(bits .and .i64 t (need a c)==0)=true↔¬bitOn t a∧¬bitOn t c:=by
 obtain⟨k,rfl⟩:∃k:Nat,t=k:=⟨t.toNat,by omega⟩
 have hk:k=0∨k=1∨k=2∨k=3:=by omega
 rcases hk with rfl|rfl|rfl|rfl <;> rcases ha with rfl|rfl <;> rcases hc with rfl|rfl <;> decide
theorem blocks_any (z:Int) (w:World) (hz:n64 z):Calls Tryz.prog 81 #[.int .i64 z] w fun e w'=>e=.returned (.int .i64 (blocks z:Nat))∧w=w':=by
 have h0 : -9223372036854775808≤z:=hz.1
 have h1:z≤9223372036854775807:=hz.2
 clear hz
 by_cases h:z<1
 ·have HB:=Hz (show 0=((blocks z:Nat):Int) from by unfold blocks;omega)
  go_enter Tryz.func81,Tryz.ntmps81
  go_wp2
  go_ret
  exact⟨Qg HB.o,rfl⟩
 ·have HB:=Hz (show (z-1)/16+1=((blocks z:Nat):Int) from by unfold blocks;omega)
  have ht:(z-1).tdiv 16=(z-1)/16:=Int.tdiv_eq_ediv_of_nonneg (by omega)
  go_enter Tryz.func81,Tryz.ntmps81
  go_wp2
  go_ret
  exact⟨Qg HB.o,rfl⟩
end RecG
namespace RecI
open Kit Byt RecM RecA RecC RecG
theorem qwe {z:Int} (hz:n64 z) {K:Nat} (h:K=blocks z) (w:World):Calls Tryz.prog 81 #[.int .i64 z] w fun e w'=>e=.returned (.int .i64 (K:Nat))∧w'=w:=h▸(blocks_any z w hz).mono fun _ _ h=>⟨h.1,h.2.symm⟩
theorem rights_any (g:Sg) (w:World) (hk:sok g) (b:Bool) (hb:b=true↔g.right):Calls Tryz.prog 47 #[sval g] w (Yes w b):=by
 obtain⟨s,z,h⟩:=g
 have HB:=Hz (show b=true↔(1≤s∧s≤65535)∧(1≤z∧z≤160)∧(0≤h∧h<2 ^ blocks z) from hb)
 have hz:=hk.z
 clear hb hk
 have HX:=Hz (Bx.new w 103 (scells ⟨s,z,h⟩))
 have HF:=Hz (show ∀q:Prop,(b=true→q)→¬q→b=false from fun q h hp=>by rw [Bool.eq_false_iff];exact fun hb=>hp (h hb))
 show Calls _ _ #[.agg #[.int .i64 s,.int .i64 z,.int .i64 h]] w _
 cases s0:inn s 1 65535
 ·have hbf:=Hz (HF.o _ (fun h=>(HB.o.1 h).1) (inn_false s0))
  go_enter Tryz.func47,Tryz.ntmps47
  go_wp2_with fail
  have W0:=Hz (fun w1=>Q1 s0 w1)
  clear s0
  go_quiet ((go_at_call 80;with_reducible exact Calls.quiet_of_same (W0.o _)))
  go_wp2
  go_ret
  exact⟨by rw [hbf.o];rfl,below_drewN HX.o.bel _⟩
 ·cases s1:inn z 1 160
  ·have hbf:=Hz (HF.o _ (fun h=>(HB.o.1 h).2.1) (inn_false s1))
   go_enter Tryz.func47,Tryz.ntmps47
   go_wp2_with fail
   have W0:=Hz (fun w1=>Q1 s0 w1)
   have W1:=Hz (fun w1=>Q1 s1 w1)
   clear s0 s1
   go_quiet ((first|(go_at_call 80;with_reducible exact Calls.quiet_of_same (W0.o _))|(go_at_call 80;with_reducible exact Calls.quiet_of_same (W1.o _))))
   go_wp2
   go_ret
   exact⟨by rw [hbf.o];rfl,below_drewN HX.o.bel _⟩
  ·have h1:=inn_true s1
   obtain⟨K,hK⟩:∃K,K=blocks z:=⟨_,rfl⟩
   have hK10:K≤10:=by rw [hK];unfold blocks;omega
   have hp:(2:Int) ^ K≤1024:=by rw [hK];exact Zn h1.2
   have hp1:1≤(2:Int) ^ K:=by
    have h2:1≤2 ^ K:=Nat.one_le_two_pow
    have h3:((2 ^ K:Nat):Int)=(2:Int) ^ K:=by simp
    omega
   have HBK:=Hz (fun w1=>qwe hz hK w1)
   cases s2:inn h 0 ((2:Int) ^ K-1)
   ·have hbf:=Hz (HF.o _ (fun h=>(HB.o.1 h).2.2) (by have:=inn_false s2;rw [←hK];omega))
    have W0:=Hz (fun w1=>Q1 s0 w1)
    have W1:=Hz (fun w1=>Q1 s1 w1)
    have W2:=Hz (fun w1=>Q1 s2 w1)
    clear s0 s1 s2 hK
    go_enter Tryz.func47,Tryz.ntmps47
    go_wp2_with fail
    go_quiet ((first|(go_at_call 80;with_reducible exact Calls.quiet_of_same (W0.o _))|(go_at_call 80;with_reducible exact Calls.quiet_of_same (W1.o _))|(go_at_call 81;with_reducible exact Calls.quiet_of_same (HBK.o _))|(go_at_call 80;with_reducible exact Calls.quiet_of_same (W2.o _))))
    go_wp2
    go_ret
    exact⟨by rw [hbf.o];rfl,below_drewN HX.o.bel _⟩
   ·have hbt:=Hz (HB.o.2 ⟨inn_true s0,h1,by have:=inn_true s2;rw [←hK];omega⟩)
    have W0:=Hz (fun w1=>Q1 s0 w1)
    have W1:=Hz (fun w1=>Q1 s1 w1)
    have W2:=Hz (fun w1=>Q1 s2 w1)
    clear s0 s1 s2 hK
    go_enter Tryz.func47,Tryz.ntmps47
    go_wp2_with fail
    go_quiet ((first|(go_at_call 80;with_reducible exact Calls.quiet_of_same (W0.o _))|(go_at_call 80;with_reducible exact Calls.quiet_of_same (W1.o _))|(go_at_call 81;with_reducible exact Calls.quiet_of_same (HBK.o _))|(go_at_call 80;with_reducible exact Calls.quiet_of_same (W2.o _))))
    go_wp2
    go_ret
    exact⟨by rw [hbt.o];rfl,below_drewN HX.o.bel _⟩
theorem sumOf_any (A:Option Addr) (n c:Nat) (xs:List Nat) (w:World) (hR:Rd w A n c (u8n xs)) (hx:byt xs) :
 Calls Tryz.prog 162 #[.slice A n c] w (Gives w (s4 xs)):=by
 have HR:=Hz hR
 have hlt:CrcM.sm xs<4294967296:=CrcM.sm_lt xs
 have HS:=Hz (fun g w' (hT:CrcC.Tb w' g 256) (h:Rd w' A n c (u8n xs))=>CrcD.T8 g A n c xs w' hT h hx)
 have HD:=Hz (show s4 xs=pbn (CrcM.sm xs:Nat) 4 from rfl)
 obtain⟨y,hy⟩:∃y,y=CrcM.sm xs:=⟨_,rfl⟩
 rw [←hy] at HS hlt HD
 clear hR hy
 go_enter Tryz.func162,Tryz.ntmps162
 go_wp2_with (first
  | (go_at_call 139;refine (CrcC.Wq _).mono ?_;rintro e w1 ⟨rfl,hT,hb1,hs1⟩;clear hs1;have HT:=Hz hT;clear hT)
  | (go_at_call 171;refine (HS.o _ _ HT.o (HR.o.below hb1)).mono ?_;rintro e w' ⟨rfl,rfl⟩)
  | (go_at_call 92;refine (NumB.put_any none 0 0 [] (y:Nat) 4 _ (Rd.nil _) (by omega)).mono ?_;rintro e w2 ⟨A2,n2,c2,hn2,rfl,hown2,hb2⟩))
 go_ret
 refine⟨A2,n2,c2,rfl,?_,hb1.trans (hb2.mono hb1.size)⟩
 rw [HD.o,J3,Ug]
 exact own_mono (by simpa using hown2) hb1.size
theorem zeros_any (A:Option Addr) (n c:Nat) (xs:List Nat) (w:World) (hR:Rd w A n c (u8n xs)) (b:Bool) (hb:b=true↔xs=List.replicate xs.length 0) :
 Calls Tryz.prog 181 #[.slice A n c] w fun e w'=>e=.returned (.bool b)∧w=w':=by
 have hn:xs.length=n:=Rd.nats hR
 have hcap:=hR.cap
 have hle:=hR.le
 have HR:=Hz hR
 have HB:=Hz hb
 have HN:=Hz hn
 clear hR hb hn
 go_enter Tryz.func181,Tryz.ntmps181
 go_wp2
 go_loop [7] (fun i=>∃k:Nat,k≤n∧i=.int .i64 k∧Hid (xs.take k=List.replicate k 0)) (fun i=>n-(intOf i).toNat)
 case atStart=>exact⟨0,by omega,rfl,Hz (by simp)⟩
 case round=>
  obtain⟨k,hk,rfl,hz⟩:=hrel
  by_cases hkn:k<n
  ·obtain⟨bb,o,rfl,hc⟩:=Rd.nat HR.o (k:=k) (by have:=HN.o;omega)
   have HX:=Hz (show ∀h:k<xs.length,xs.take (k+1)=xs.take k++[xs[k]] from fun h=>Wu h)
   obtain⟨u,hu⟩:∃u,u=xs[k]'(by have:=HN.o;omega):=⟨_,rfl⟩
   have HU:=Hz hu
   rw [←hu] at hc
   clear hu
   by_cases hu0:u=0
   ·have hd:((u:Int) != 0)=false:=by simp [hu0]
    have HU0:=Hz hu0
    clear hu0
    go_wp2
    go_round
    case rel=>exact⟨k+1,by omega,by go_num,Hz (by rw [HX.o (by have:=HN.o;omega),hz.o,←HU.o,HU0.o,List.replicate_succ'])⟩
    case measure=>simp [intOf];omega
   ·have hd:((u:Int) != 0)=true:=by simp;omega
    have hbf:=Hz (show b=false from by
     rw [Bool.eq_false_iff]
     intro h
     have h1:=HB.o.1 h
     refine hu0 ?_
     rw [HU.o]
     have h4:xs[k]'(by have:=HN.o;omega)=(List.replicate xs.length 0)[k]'(by rw [List.length_replicate];have:=HN.o;omega):=by
      have:∀(l:List Nat) (hl:k<l.length),xs=l→xs[k]'(by have:=HN.o;omega)=l[k]:=fun l hl e=>by subst e;rfl
      exact this _ _ h1
     rw [h4,List.getElem_replicate])
    clear hu0
    go_wp2
    go_ret
    exact⟨by rw [hbf.o];rfl,rfl⟩
  ·obtain rfl:k=n:=by omega
   have hbt:=Hz (HB.o.2 (by have h1:=hz.o;have h2:=HN.o;rw [Mt (by omega)] at h1;rw [h2];exact h1))
   go_wp2
   go_ret
   exact⟨by rw [hbt.o];rfl,rfl⟩
end RecI
namespace RecJ
open Mem RecG
def fcells (g:Nat) (ws:List Nat):List Value:=(List.range (2*ws.length)).map fun i=>if i%2=0 then .pointer (some ⟨g,i/2,none⟩) else .int .i64 (ws.getD (i/2) 0:Nat)
theorem Q4 (g:Nat) (ws:List Nat):(fcells g ws).length=2*ws.length:=by simp [fcells]
theorem fcells_at {g k:Nat} {ws:List Nat} (h:k<ws.length):(fcells g ws)[k*2]?=some (.pointer (some ⟨g,k,none⟩)):=by
 simp only [fcells,List.getElem?_map,List.getElem?_range (show k*2<2*ws.length by omega),Option.map_some,Option.some.injEq]
 rw [if_pos (by omega)]
 congr 3
 omega
theorem fcells_wd {g k:Nat} {ws:List Nat} (h:k<ws.length):(fcells g ws)[k*2+1]?=some (.int .i64 (ws[k]:Nat)):=by
 simp only [fcells,List.getElem?_map,List.getElem?_range (show k*2+1<2*ws.length by omega),Option.map_some,Option.some.injEq]
 rw [if_neg (by omega),show (k*2+1)/2=k by omega,Mg,Mq h]
 rfl
theorem fcells_one (g:Nat) (ws:List Nat):∀u ∈ fcells g ws,u.oneCell'=true:=by
 intro u hu
 simp only [fcells,List.mem_map] at hu
 obtain⟨i,_,rfl⟩:=hu
 split <;> rfl
def rws:List Nat:=[1,4,1,1,1,1]
def sws:List Nat:=[2,2,2]
def vals (vs:List Int):List Value:=vs.map (Value.int .i64)
theorem Gh (vs:List Int):(vals vs).length=vs.length:=by simp [vals]
theorem fcells_r (g:Nat):fcells g rws=[.pointer (some ⟨g,0,none⟩),.int .i64 1,.pointer (some ⟨g,1,none⟩),.int .i64 4,.pointer (some ⟨g,2,none⟩),.int .i64 1,.pointer (some ⟨g,3,none⟩),.int .i64 1,.pointer (some ⟨g,4,none⟩),.int .i64 1,.pointer (some ⟨g,5,none⟩),.int .i64 1]:=rfl
theorem fcells_s (g:Nat):fcells g sws=[.pointer (some ⟨g,0,none⟩),.int .i64 2,.pointer (some ⟨g,1,none⟩),.int .i64 2,.pointer (some ⟨g,2,none⟩),.int .i64 2]:=rfl
theorem L9:(Tryz.prog.info? 194).map (·.size)=some 12:=by kernel_rfl
theorem Hj:(Tryz.prog.info? 214).map (·.size)=some 6:=by kernel_rfl
theorem ofRecord_any (g:Nat) (w:World):Calls Tryz.prog 125 #[.pointer (some ⟨g,0,none⟩)] w fun e w'=>e=.returned (.agg (fcells g rws).toArray)∧Bw w w':=by
 have HF:=Hz (fcells_r g)
 go_enter Tryz.func125,Tryz.ntmps125
 go_wp2_with fail
 have HB:=Hz (Blk.new w 194 [.pointer none,.int .i64 0,.pointer none,.int .i64 0,.pointer none,.int .i64 0,.pointer none,.int .i64 0,.pointer none,.int .i64 0,.pointer none,.int .i64 0])
 have HL:=Hz (show Bw w (w.alloc (.cells [.pointer none,.int .i64 0,.pointer none,.int .i64 0,.pointer none,.int .i64 0,.pointer none,.int .i64 0,.pointer none,.int .i64 0,.pointer none,.int .i64 0].toArray 194)) from (Mb _ _).alloc (Mr _) _)
 go_still_tail 25,(by kernel_rfl)
 change wpList _ _ _ _ _ (World.drew _)
 refine Qq rfl 194 (.tmp 2) (.tmp 27) rfl w.heap.size rfl (fcells g rws) (by rw [HF.o];rfl) (show Blk (World.drew _) _ _ _ from HB.o) (by rw [Q4];rfl) (by rw [Q4];exact L9) (fcells_one _ _) ?_
 intro w3 hB3 ho3
 rw [HF.o] at hB3
 go_wp2_with fail
 have e0:=hB3.o.cell (i:=0) rfl
 have e1:=hB3.o.cell (i:=1) rfl
 have e2:=hB3.o.cell (i:=2) rfl
 have e3:=hB3.o.cell (i:=3) rfl
 have e4:=hB3.o.cell (i:=4) rfl
 have e5:=hB3.o.cell (i:=5) rfl
 have e6:=hB3.o.cell (i:=6) rfl
 have e7:=hB3.o.cell (i:=7) rfl
 have e8:=hB3.o.cell (i:=8) rfl
 have e9:=hB3.o.cell (i:=9) rfl
 have e10:=hB3.o.cell (i:=10) rfl
 have e11:=hB3.o.cell (i:=11) rfl
 refine bodyPost_ret (v:=.agg (fcells g rws).toArray) (by rw [HF.o];simp [results,Tryz.results125,go_sem,e0,e1,e2,e3,e4,e5,e6,e7,e8,e9,e10,e11]) rfl ?_
 exact⟨rfl,ho3.o.below (show Bw w (World.drew _) from below_drewN HL.o 1) (Mr _) HL.o.size⟩
theorem ofStage_any (g:Nat) (w:World):Calls Tryz.prog 145 #[.pointer (some ⟨g,0,none⟩)] w fun e w'=>e=.returned (.agg (fcells g sws).toArray)∧Bw w w':=by
 have HF:=Hz (fcells_s g)
 go_enter Tryz.func145,Tryz.ntmps145
 go_wp2_with fail
 have HB:=Hz (Blk.new w 214 [.pointer none,.int .i64 0,.pointer none,.int .i64 0,.pointer none,.int .i64 0])
 have HL:=Hz (show Bw w (w.alloc (.cells [.pointer none,.int .i64 0,.pointer none,.int .i64 0,.pointer none,.int .i64 0].toArray 214)) from (Mb _ _).alloc (Mr _) _)
 go_still_tail 13,(by kernel_rfl)
 change wpList _ _ _ _ _ (World.drew _)
 refine Qq rfl 214 (.tmp 2) (.tmp 15) rfl w.heap.size rfl (fcells g sws) (by rw [HF.o];rfl) (show Blk (World.drew _) _ _ _ from HB.o) (by rw [Q4];rfl) (by rw [Q4];exact Hj) (fcells_one _ _) ?_
 intro w3 hB3 ho3
 rw [HF.o] at hB3
 go_wp2_with fail
 have e0:=hB3.o.cell (i:=0) rfl
 have e1:=hB3.o.cell (i:=1) rfl
 have e2:=hB3.o.cell (i:=2) rfl
 have e3:=hB3.o.cell (i:=3) rfl
 have e4:=hB3.o.cell (i:=4) rfl
 have e5:=hB3.o.cell (i:=5) rfl
 refine bodyPost_ret (v:=.agg (fcells g sws).toArray) (by rw [HF.o];simp [results,Tryz.results145,go_sem,e0,e1,e2,e3,e4,e5]) rfl ?_
 exact⟨rfl,ho3.o.below (show Bw w (World.drew _) from below_drewN HL.o 1) (Mr _) HL.o.size⟩
end RecJ
namespace RecK
open Kit Byt Mem RecM RecC RecG RecI RecJ
def marks (s:ByteArray) (m:Nat):Prop:=s.data.toList.map UInt8.toNat=[76,m]
theorem marks.size {s:ByteArray} {m:Nat} (h:marks s m):s.size=2:=by
 have h1:=congrArg List.length h
 rw [List.length_map] at h1
 exact h1
theorem marks.at_ {s:ByteArray} {m:Nat} (h:marks s m) {j:Nat} (hj:j<2):(s.data.toList.getD j 0).toNat=[76,m].getD j 0:=by
 have hl:s.data.toList.length=2:=by have:=congrArg List.length h;simpa using this
 unfold marks at h
 rw [Mg,Mg,←h,List.getElem?_map,Mq (by omega)]
 rfl
theorem qqn {s:ByteArray} {m:Nat} (h:marks s m):∃(cp:World→Nat) (mw:World→World),
 (∀w,(convert 9 31 (.string s)).run Tryz.prog w=.ok (.slice (some ⟨w.heap.size,0,none⟩) 2 (cp w)) (mw w))∧
 ∀w,Rd (mw w) (some ⟨w.heap.size,0,none⟩) 2 (cp w) (u8n [76,m])∧Bw w (mw w):=by
 have h2:=h.size
 refine⟨fun w=>grownCap w s.size 0 5,fun w=>Lib.bytesWorld w 5 s,fun w=>?_,fun w=>⟨⟨rfl,?_,?_,fun _=>⟨_,_,rfl,?_,fun j u hu=>?_⟩⟩,⟨rfl,rfl,rfl,?_,fun k hk=>Lib.bytesWorld_at_old w _ s k hk⟩⟩⟩
 ·have:=Lib.run_convert_string_bytes (P:=Tryz.prog) w 9 31 5 s Tryz.underlying9 Tryz.underlying31 Tryz.underlying5
  rw [h2] at this ⊢
  exact this
 ·have:=grownCap_ge w s.size 0 5
  dsimp only
  omega
 ·have:=grownCap_le_maxLen w s.size 0 5 (by unfold maxLen;omega)
  unfold maxLen at this
  exact this
 ·rw [Lib.bytesWorld_size]
  omega
 ·have hj:j<2:=by have:=(List.getElem?_eq_some_iff.1 hu).1;simpa [u8n] using this
  rw [Nat.zero_add,Lib.bytesWorld_cell w _ s j (by omega),h.at_ hj]
  rw [←hu]
  match j,hj with
  | 0,_=>rfl
  | 1,_=>rfl
 ·rw [Lib.bytesWorld_size]
  omega
theorem size8:(Tryz.prog.info? 5).map (·.size)=some 1:=by kernel_rfl
def told (F:List (Nat×Int)):List Nat:=F.flatMap fun f=>pbn f.2 (f.1:Nat)
theorem told_next {F:List (Nat×Int)} {k:Nat} (h:k<F.length):told (F.take (k+1))=told (F.take k)++pbn F[k].2 (F[k].1:Nat):=by
 unfold told
 rw [List.take_succ_eq_append_getElem h,List.flatMap_append]
 simp
theorem told_lt (F:List (Nat×Int)):byt (told F):=by
 intro c hc
 simp only [told,List.mem_flatMap] at hc
 obtain⟨f,_,hf⟩:=hc
 exact pbn_lt _ _ c hf
theorem told_len (F:List (Nat×Int)):(told F).length≤6*F.length:=by
 induction F with
 | nil=>simp [told]
 | cons f F ih=>
   have h1:told (f :: F)=pbn f.2 (f.1:Nat)++told F:=by simp [told]
   have h2:=NumA.wd_le (f.1:Nat)
   rw [h1,Ma,Zh,List.length_cons]
   omega
theorem sector_any (s:ByteArray) (m:Nat) (hs:marks s m) (hm:m<256) (F:List (Nat×Int)) (g gb n:Nat) (t' t2:TypeId) (w:World) (hF:F.length=n) (h0:0<n) (hn:n≤100) (hB:Blk w gb t' (fcells g (F.map Prod.fst))) (hV:Blk w g t2 (vals (F.map Prod.snd))) (h60:2+(told F).length≤60) (xs:List Nat) (hxs:xs=[76,m]++told F) :
 Calls Tryz.prog 126 #[.string s,.slice (some ⟨gb,0,none⟩) n n] w (Gives w (shut xs)):=by
 obtain⟨i0,hi0,hz0,hz1,hz2⟩:=info_parts NumA.info8
 obtain⟨cp,mw,kc,hmw⟩:=qqn hs
 have HMW:=Hz hmw
 have HB:=Hz hB
 have HV:=Hz hV
 have HF:=Hz hF
 have H60:=Hz h60
 have HM:=Hz hm
 have HXS:=Hz hxs
 clear hxs
 have hgl:=hB.lt
 have hvl:=hV.lt
 clear hmw hB hV hF h60 hs hm
 go_enter Tryz.func126,Tryz.ntmps126
 go_wp2_with fail
 go_loopw [5,13] (fun b i wr=>∃(k:Nat) (A:Option Addr) (l c:Nat),k≤n∧i=.int .i64 k∧b=.slice A l c∧Hid (Rd wr A l c (u8n ([76,m]++told (F.take k))))∧Hid (0<k→wr.ownsRow w.heap.size 5 1 (.slice A l c) l (u8n ([76,m]++told (F.take k))))∧Hid (Bw w wr)) (fun _ i _=>n-(intOf i).toNat)
 case atStart=>exact⟨0,_,_,_,by omega,rfl,rfl,Hz (HMW.o w).1,Hz (fun h=>by omega),Hz (HMW.o w).2⟩
 case round=>
  obtain⟨k,A,l,c,hk,rfl,rfl,hR,hO,hL⟩:=hrel
  have hLs:=hL.o.size
  by_cases hkn:k<n
  ·have hkF:k<F.length:=by have:=HF.o;omega
   have q0:=(HB.o.below hL.o).cell (i:=k*2) (fcells_at (by rw [List.length_map];exact hkF))
   have q1:=(HB.o.below hL.o).cell (i:=k*2+1) (fcells_wd (by rw [List.length_map];exact hkF))
   have q2:=(HV.o.below hL.o).cell (i:=k) (v:=.int .i64 F[k].2) (by simp [vals,hkF])
   have HN:=Hz (told_next hkF)
   have HL:=Hz (told_len (F.take k))
   rw [List.getElem_map] at q1
   obtain⟨x,hx⟩:∃x,x=F[k].1:=⟨_,rfl⟩
   obtain⟨v,hv⟩:∃v,v=F[k].2:=⟨_,rfl⟩
   rw [←hx] at q1 HN
   rw [←hv] at q2 HN
   clear hx hv
   go_wp2_with fail
   have HB4:=Hz (Blk.new wr 193 [.pointer (some ⟨g,k,none⟩),.int .i64 (x:Nat)])
   have HL4:=Hz (show Bw w (wr.alloc (.cells [.pointer (some ⟨g,k,none⟩),.int .i64 (x:Nat)].toArray 193)) from hL.o.alloc hLs _)
   have HR4:=Hz (show Rd (wr.alloc (.cells [.pointer (some ⟨g,k,none⟩),.int .i64 (x:Nat)].toArray 193)) A l c (u8n ([76,m]++told (F.take k))) from hR.o.alloc _)
   obtain⟨bx,hbx⟩:∃bx,bx=wr.heap.size:=⟨_,rfl⟩
   have r2:(wr.alloc (.cells [.pointer (some ⟨g,k,none⟩),.int .i64 (x:Nat)].toArray 193)).cell? ⟨g,k,none⟩=some (.int .i64 v):=(((Mb wr.heap.size wr).alloc (Mr _) _).cell (p:=⟨g,k,none⟩) (by show g<_;omega)).trans q2
   rw [←hbx] at HB4
   rw [←hbx]
   have hgbx:g<bx:=by omega
   clear hbx q0 q1 q2
   generalize hw4:wr.alloc (.cells [.pointer (some ⟨g,k,none⟩),.int .i64 (x:Nat)].toArray 193)=w4 at *
   clear hw4
   have r0:=HB4.o.cell (i:=0) rfl
   have r1:=HB4.o.cell (i:=1) rfl
   have hbl:=HB4.o.lt
   have hll:=Rd.nats HR4.o
   have HPUT:=Hz (NumB.put_any A l c (nl ([76,m]++told (F.take k))) v (x:Nat) w4.drew (show Rd w4.drew _ _ _ _ from by rw [←J3];exact HR4.o.drewN 1) (by
    have:=HL.o
    rw [Mk_] at this
    rw [Ma] at hll
    simp at hll
    omega))
   clear hll
   go_region_held3 (fun w'=>w'.cell? ⟨bx,0,none⟩=some (.pointer (some ⟨g,k,none⟩))∧w'.cell? ⟨bx,1,none⟩=some (.int .i64 (x:Nat))∧w'.cell? ⟨g,k,none⟩=some (.int .i64 v))
    (first|go_keep|exact⟨(hb6.cell (p:=⟨bx,0,none⟩) hbl).trans r0,(hb6.cell (p:=⟨bx,1,none⟩) hbl).trans r1,(hb6.cell (p:=⟨g,k,none⟩) (by show g<w4.heap.size;omega)).trans r2⟩)
    ((go_at_call 92;refine HPUT.o.mono ?_;rintro e w6 ⟨A6,n6,c6,hn6,rfl,hown6,hb6⟩))
   all_goals (
    have HO6:=Hz (show w6.ownsRow w.heap.size 5 1 (.slice A6 n6 c6) n6 (u8n ([76,m]++told (F.take (k+1)))) from by
     rw [HN.o,←List.append_assoc,J3,Xt,Ug]
     exact own_mono hown6 HL4.o.size)
    have HL6:=Hz (show Bw w w6 from (show Bw w w4.drew from below_drewN HL4.o 1).trans (hb6.mono HL4.o.size))
    clear hb6 hown6 hn6 r0 r1 r2
    go_wp2
    go_roundw
    case rel=>exact⟨k+1,A6,n6,c6,by omega,by go_num,rfl,Hz (Rd.own HO6.o),Hz (fun _=>HO6.o),HL6⟩
    case measure=>simp [intOf];omega)
  ·obtain rfl:k=n:=by omega
   have hO:=Hz (hO.o h0)
   rw [Mt (by have:=HF.o;omega),←HXS.o] at hO hR
   have HX:=Hz (show byt xs from by rw [HXS.o];exact byt_app (by have:=HM.o;intro c hc;simp at hc;omega) (told_lt F))
   have HLEN:=Hz (show xs.length≤60 from by rw [HXS.o];have:=H60.o;simp;omega)
   have HLL:=Hz (Rd.nats hR.o)
   go_wp2_with fail
   refine (sumOf_any A l c xs _ hR.o HX.o).mono ?_
   rintro e w2 ⟨A2,n2,c2,rfl,hown2,hb2⟩
   have HO2:=Hz (own_below hO.o hb2)
   have HL2:=Hz (hL.o.trans (hb2.mono hLs))
   have HR2:=Hz (Rd.own hown2)
   have hs2:=HL2.o.size
   obtain rfl:4=n2:=by have:=Rd.nats HR2.o;rw [Wx] at this;omega
   clear hown2 hb2 hO hR
   go_wp2_with (first
    | (at_builtin;refine Qu _ rfl (.tmp 26) (.tmp 28) _ rfl w.heap.size 5 i0 _ 1 Tryz.underlying31 hi0 hz0 hz1 hz2 rfl _ l _ rfl HO2.o A2 4 c2 _ rfl HR2.o (u8n_one _) (by have:=HLEN.o;have:=HLL.o;omega) (by have:=HLEN.o;have:=HLL.o;omega) hs2 ?_;intro A3 n3 c3 w3 hn3 hown3 hg3 hat3;
       have HL3:=Hz (below_add HL2.o HO2.o (Mr _) hg3);rw [Ju] at hown3;have HR3:=Hz (Rd.own hown3);have hs3:=HL3.o.size;have HN3:=Hz (show n3≤64 from by have:=HLEN.o;have:=HLL.o;have:=hn3.o;omega);have HLX:=Hz (show xs.length+4=n3 from by have:=HLL.o;have:=hn3.o;omega);clear hown3 hg3 hat3 hn3)
    | (at_make;refine Qx _ rfl _ _ _ rfl 5 i0 _ 1 Tryz.underlying31 hi0 hz0 hz1 hz2 rfl _ _ _ _ 64 64 rfl rfl (by omega) (by omega) (by omega) (by omega) (by omega) ?_;intro w4 H4 hb4 hs4;
       have HB4:=Hz (show Blk w4 w3.heap.size 5 (u8n (List.replicate 64 0)) from (by have h:=H4.o;unfold Blk;rw [h];simp [u8n]));have HL4:=Hz (HL3.o.trans (hb4.mono hs3));have HR4:=Hz (HR3.o.below hb4);clear H4 hb4 hs4)
    | (refine Ql rfl (.tmp 31) (.tmp 32) 31 31 rfl 5 Tryz.underlying31 size8 w3.heap.size 0 64 64 rfl rfl HR4.o (u8n_one _) HB4.o (by rw [Qv];simp) ?_;intro w5 k5 hk5 HB5 ho5))
   go_ret
   have hk5:=hk5.o
   have hB5:=HB5.o
   obtain rfl:k5=n3:=by have:=HN3.o;omega
   have e2:splice (u8n (List.replicate 64 0)) 0 ((u8n (xs++s4 xs)).take k5)=u8n (shut xs):=by
    have e4:(xs++s4 xs).length=k5:=by rw [Ma,Wx];exact HLX.o
    rw [Mt (by rw [Qv,e4];omega)]
    simp only [splice,List.take_zero,List.nil_append,Nat.zero_add,Qv,e4]
    have e5:(u8n (List.replicate 64 0)).drop k5=u8n (List.replicate (60-xs.length) 0):=by
     have h1:=HLX.o
     have h2:64-k5=60-xs.length:=by omega
     simp only [u8n,List.map_replicate,List.drop_replicate,h2]
    rw [e5,Ju,List.append_assoc]
    rfl
   rw [e2] at hB5
   have e3:(u8n (shut xs)).length=64:=by rw [Qv,J5 HLEN.o]
   have h:=Q0 (base:=w.heap.size) (n:=64) hB5 hs3 (by omega) (by omega)
   rw [e3,Mt (by omega)] at h
   exact⟨_,_,_,rfl,h,ho5.o.below HL4.o hs3 HL4.o.size⟩
end RecK
namespace RecL
open Kit Byt Mem RecM RecA RecG RecI RecJ RecK
theorem has_any (b o n c:Nat) (B:Option Addr) (d:Nat) (ys ms:List Nat) (w:World) (hR:Rd w (some ⟨b,o,none⟩) n c (u8n ys)) (hx:byt ys) (hP:Rd w B 2 d (u8n ms)) (hm:byt ms) (h2:2≤n) (q:Bool) (hq:q=true↔ys.take 2=ms) :
 Calls Tryz.prog 173 #[.slice (some ⟨b,o,none⟩) n c,.slice B 2 d] w fun e w'=>e=.returned (.bool q)∧w=w':=by
 have hn:ys.length=n:=Rd.nats hR
 have hc:=hR.le
 have hc2:=hR.cap
 have hq':=Beq.Jn (some ⟨b,o,none⟩) B 2 2 c d (ys.take 2) ms w (by have:=hR.take (k:=2) (by omega);simpa [u8n,List.map_take] using this) hP (byt_take hx 2) hm
 rw [show decide (ys.take 2=ms)=q from by rw [Bool.eq_iff_iff,decide_eq_true_eq,hq]] at hq'
 have HQ:=Hz hq'
 clear hq hq' hR hP hx hm
 have k0:(2:Int)≤(n:Int):=by omega
 have k1:(2:Int)≤(c:Int):=by omega
 have k2:2≤c:=by omega
 go_enter Tryz.func173,Tryz.ntmps173
 go_wp2_with (go_at_call 142;refine HQ.o.mono ?_;rintro e w' ⟨rfl,rfl⟩)
 go_ret
 exact⟨rfl,rfl⟩
theorem parts {xs:List Nat} {N:Nat} (_h64:xs.length=64) (_hN:N≤60):xs=xs.take N++((xs.drop N).take 4++xs.drop (N+4)):=by
 rw [←List.drop_drop,List.take_append_drop,List.take_append_drop]
theorem qwf {xs:List Nat} {N:Nat} (h64:xs.length=64) (hN:N≤60) (hz:xs.drop (N+4)=List.replicate (60-N) 0):shut (xs.take N)=xs↔(xs.drop N).take 4=s4 (xs.take N):=by
 have hl:(xs.take N).length=N:=by simp;omega
 have hp:=parts h64 hN
 have hs:shut (xs.take N)=xs.take N++(s4 (xs.take N)++List.replicate (60-N) 0):=by unfold shut;rw [hl]
 rw [hs]
 constructor
 ·intro h
  have h1:=h.trans hp
  have h2:=List.append_cancel_left h1
  exact ((List.append_inj h2 (by rw [Wx];simp;omega)).1).symm
 ·intro h
  conv=>rhs;rw [hp,h,hz]
def numsOf (ws:List Nat) (xs:List Nat):List Int:=(List.range ws.length).map fun k=>nm xs (2+(ws.take k).sum) (ws.getD k 0)
theorem qwg (xs:List Nat):vals (numsOf rws xs)=rcells (rcOf xs):=rfl
theorem qwh (xs:List Nat):vals (numsOf sws xs)=scells (sgOf xs):=rfl
theorem Uy (ws xs:List Nat):(numsOf ws xs).length=ws.length:=by simp [numsOf]
theorem sum_next {ws:List Nat} {k:Nat} (h:k<ws.length):(ws.take (k+1)).sum=(ws.take k).sum+ws[k]:=by
 rw [List.take_succ_eq_append_getElem h,List.sum_append]
 simp
theorem sum_le (ws:List Nat) (k:Nat):(ws.take k).sum≤ws.sum:=by
 have h:=congrArg List.sum (List.take_append_drop k ws)
 rw [List.sum_append] at h
 omega
theorem wd_of {x:Nat} (h1:1≤x) (h6:x≤6):NumA.wd (x:Nat)=x:=by unfold NumA.wd;omega
theorem num_nm {xs:List Nat} {E S x:Nat} (h:2+S+x≤E):TabR.num ((nl (((xs.take E).drop 2).drop S)).take x)=nm xs (2+S) x:=by
 have e:(nl (((xs.take E).drop 2).drop S)).take x=nl ((xs.drop (2+S)).take x):=by
  unfold nl
  rw [←List.map_take,List.drop_drop,List.drop_take,List.take_take,Nat.min_eq_left (by omega)]
 rw [e]
 rfl
theorem qvb {ws xs:List Nat} {k:Nat} (h:k<ws.length):(numsOf ws xs)[k]?=some (nm xs (2+(ws.take k).sum) ws[k]):=by
 simp only [numsOf,List.getElem?_map,List.getElem?_range h,Option.map_some,Mg,Mq h,Option.getD_some]
def upd (ws xs:List Nat) (V:List Int) (k:Nat):List Int:=(numsOf ws xs).take k++V.drop k
theorem upd_set {ws xs:List Nat} {V:List Int} {k:Nat} (h:k<ws.length) (hV:V.length=ws.length):(vals (upd ws xs V k)).set k (.int .i64 (nm xs (2+(ws.take k).sum) ws[k]))=vals (upd ws xs V (k+1)):=by
 have hl:((numsOf ws xs).take k).length=k:=by rw [Mk_,Uy];omega
 have hn:k<(numsOf ws xs).length:=by rw [Uy];exact h
 have hg:(numsOf ws xs)[k]=nm xs (2+(ws.take k).sum) ws[k]:=by
  have:=qvb (xs:=xs) h
  rw [Mq hn] at this
  injection this
 have hv:(Value.int .i64 (nm xs (2+(ws.take k).sum) ws[k]))=(fun x:Int=>Value.int .i64 x) (nm xs (2+(ws.take k).sum) ws[k]):=rfl
 unfold vals upd
 rw [hv,←List.map_set,List.set_append_right _ _ (by omega),hl,Nat.sub_self,List.drop_eq_getElem_cons (show k<V.length by omega),List.set_cons_zero,List.take_succ_eq_append_getElem hn,hg,List.append_assoc]
 rfl
theorem qwi (ws xs:List Nat) (V:List Int) (hV:V.length=ws.length):upd ws xs V ws.length=numsOf ws xs:=by
 unfold upd
 rw [Mt (by rw [Uy];omega),List.drop_of_length_le (by omega),List.append_nil]
theorem St.set_other {w:World} {b g:Nat} {xs:List Int} {e:Int} {t:TypeId} {V:List Int} (h:TabR.St w b xs e) (hG:Blk w g t (vals V)) (hbg : ¬b=g) (j:Nat) (v:Value):TabR.St (w.setCell ⟨g,j,none⟩ v) b xs e:=by
 have hlt:=TabR.St.lt h
 obtain⟨A,n,c,h,hr,hA⟩:=h
 have K:=Keep.set (F:=fun q=>q=g) w j v rfl
 refine⟨A,n,c,(K.block b hlt hbg).trans h,K.rd hr (fun hp b' o' he hF=>?_),hA⟩
 obtain⟨b2,o2,he2,_,hc⟩:=hr.2.2.2 hp
 rw [he] at he2
 injection he2 with he2
 injection he2 with e1 _
 have hl:0<xs.length:=by have:=hr.1;simp [NumA.u8s] at this;omega
 have h0:=hc 0 (.int .u8 xs[0]) (by simp [NumA.u8s,hl])
 rw [←e1,show b'=g from hF,cell_of_row _ _ _ _ _ _ hG] at h0
 simp [vals] at h0
def Laid (w:World) (g:Nat) (t:TypeId) (ws xs:List Nat) (x:Int) (e:Ending) (w':World):Prop:=
 e=.returned (.int .i64 x)∧(x=0→Blk w' g t (vals (numsOf ws xs)))∧(x≠0→Bw w w')∧Keep (fun i=>i=g) w w'
theorem G7 (A:Option Addr) (n c:Nat) (xs:List Nat) (s:ByteArray) (m:Nat) (ws:List Nat) (V:List Int) (g gb q N:Nat) (t' t2:TypeId) (w:World) (hR:Rd w A n c (u8n xs)) (hx:byt xs) (hs:marks s m) (hm:m<256) (hq:ws.length=q) (hV:V.length=q)
 (h0:0<q) (hq1:q≤100) (hw1:∀x ∈ ws,1≤x∧x≤6) (hN:N=2+ws.sum) (h60:N≤59) (hB:Blk w gb t' (fcells g ws)) (hG:Blk w g t2 (vals V)) (hne:gb≠g) :
 Calls Tryz.prog 152 #[.slice A n c,.string s,.slice (some ⟨gb,0,none⟩) q q] w (Laid w g t2 ws xs (wrong m N xs)):=by
 have hn:xs.length=n:=Rd.nats hR
 have hcap:=hR.cap
 have hle:=hR.le
 have hsz:=hs.size
 obtain⟨cp,mw,kc,hmw⟩:=qqn hs
 have HMW:=Hz hmw
 by_cases h64:n=64
 ·subst h64
  obtain⟨b,o,rfl,hbl,_⟩:=hR.2.2.2 (by omega)
  have HR:=Hz hR
  have HX:=Hz hx
  have HB:=Hz hB
  have HG:=Hz hG
  have HQ:=Hz hq
  have HV:=Hz hV
  have HW:=Hz hw1
  have HN:=Hz hN
  have HNN:=Hz hn
  have HM:=Hz hm
  have hgl:=hB.lt
  have hvl:=hG.lt
  clear hR hx hB hG hq hV hw1 hmw hn hs hm hbl
  have hN2:2≤N:=by omega
  clear hN
  go_enter Tryz.func152,Tryz.ntmps152
  go_wp2_with fail
  go_loopw [7,23] (fun e i wr=>∃(k:Nat) (E:Nat),k≤q∧i=.int .i64 k∧e=.int .i64 (E:Nat)∧Hid (E=2+(ws.take k).sum)∧Hid (Bw w wr)) (fun _ i _=>q-(intOf i).toNat)
  case atStart=>exact⟨0,2,by omega,rfl,by first|rfl|(rw [hsz];rfl),Hz (by simp),Hz (Mb _ _)⟩
  case round=>
   obtain⟨k,E,hk,rfl,rfl,hE,hL⟩:=hrel
   have hLs:=hL.o.size
   have hE60:E≤N:=by have h1:=hE.o;have h2:=HN.o;have h3:=sum_le ws k;omega
   by_cases hkq:k<q
   ·have hkF:k<ws.length:=by have:=HQ.o;omega
    have q0:=(HB.o.below hL.o).cell (i:=k*2) (fcells_at hkF)
    have q1:=(HB.o.below hL.o).cell (i:=k*2+1) (fcells_wd hkF)
    have HS:=Hz (sum_next hkF)
    have hx6:=(HW.o _ (Me_ hkF)).2
    obtain⟨x,hx⟩:∃x,x=ws[k]:=⟨_,rfl⟩
    rw [←hx] at q1 HS hx6
    clear hx
    go_wp2
    go_roundw
    case rel=>exact⟨k+1,E+x,by omega,by go_num,by go_num,Hz (by rw [HS.o,hE.o];omega),Hz ((hL.o.alloc hLs _))⟩
    case measure=>simp [intOf];omega
   ·obtain rfl:k=q:=by omega
    obtain rfl:E=N:=by have h1:=hE.o;rw [Mt (by have:=HQ.o;omega)] at h1;have:=HN.o;omega
    clear hE
    have k1:(E:Int)≤64:=by omega
    have k2:(E:Int)+4≤64:=by omega
    have k3:(E:Int)≤(c:Int):=by omega
    have k4:(E:Int)+4≤(c:Int):=by omega
    have k5:E+4<c:=by omega
    have kw:IntKind.i64.wrap ((E:Int)+4)=(E:Int)+4:=by rw [Mi_];omega
    have kn:((E:Int)+4).toNat=E+4:=by omega
    have kz:0≤(E:Int)+4:=by omega
    go_wp2_with fail
    go_quiet (fail)
    obtain⟨p,hp⟩:=Q2 (xs.take 2=[76,m])
    obtain⟨z,hz⟩:=Q2 (xs.drop (E+4)=List.replicate (60-E) 0)
    obtain⟨d,hd⟩:=Q2 ((xs.drop E).take 4=s4 (xs.take E))
    have HWR:=Hz (show wrong m E xs=if p=true∧z=true then (if d=true then 0 else 10) else 2 from by
     have e0:xs.length=64:=HNN.o
     unfold wrong
     rw [if_neg (by omega)]
     by_cases h1:p=true∧z=true
     ·rw [if_pos h1,if_neg (fun h=>h.elim (fun h=>h (hp.1 h1.1)) (fun h=>h (hz.1 h1.2)))]
      have h3:=qwf e0 (by omega) (hz.1 h1.2)
      by_cases h2:d=true
      ·rw [if_pos h2,if_neg (by rw [ne_eq,h3,←hd];simp [h2])]
      ·rw [if_neg h2,if_pos (by rw [ne_eq,h3,←hd];exact h2)]
     ·rw [if_neg h1,if_pos (by
       by_cases hp':p=true
       ·exact Or.inr (fun h=>h1 ⟨hp',hz.2 h⟩)
       ·exact Or.inl (fun h=>hp' (hp.2 h)))])
    have HL1:=Hz (show Bw w (wr.drewN nq) from below_drewN hL.o nq)
    obtain⟨w1,hw1⟩:∃w1,w1=wr.drewN nq:=⟨_,rfl⟩
    rw [←hw1] at HL1 ⊢
    have HR1:=Hz (HR.o.below HL1.o)
    have HT1:=Hz (show Rd w1 (some ⟨b,o,none⟩) E c (u8n (xs.take E)) from by have:=HR1.o.take (k:=E) (by omega);simpa [u8n,List.map_take] using this)
    have HS1:=Hz (show Rd w1 (some ⟨b,o+E,none⟩) 4 (c-E) (u8n ((xs.drop E).take 4)) from by
     have h1:=TabR.Rd.drop HR1.o (k:=E) (by omega)
     have h2:=h1.take (k:=4) (by omega)
     simpa [u8n,List.map_take,List.map_drop] using h2)
    have HZ1:=Hz (show Rd w1 (some ⟨b,o+(E+4),none⟩) (60-E) (c-(E+4)) (u8n (xs.drop (E+4))) from by
     have h1:=TabR.Rd.drop HR1.o (k:=E+4) (by omega)
     rw [show 64-(E+4)=60-E by omega] at h1
     simpa [u8n,List.map_drop] using h1)
    have HP:=Hz hp
    have HZ:=Hz hz
    have HD:=Hz hd
    clear hp hz hd hw1 kw kn kz k1 k2 k3 k4 k5 hL hLs hE60 HR1
    go_wp2_with fail
    obtain⟨hmr,hmb⟩:=HMW.o w1
    have HMR:=Hz hmr
    have HL2:=Hz (HL1.o.trans (hmb.mono HL1.o.size))
    have HT2:=Hz (HT1.o.below hmb)
    have HS2:=Hz (HS1.o.below hmb)
    have HZ2:=Hz (HZ1.o.below hmb)
    clear hmr hmb HT1 HS1 HZ1
    obtain⟨w2,hw2⟩:∃w2,w2=mw w1:=⟨_,rfl⟩
    rw [←hw2] at HMR HL2 HT2 HS2 HZ2 ⊢
    clear hw2
    refine (has_any b o E c (some ⟨w1.heap.size,0,none⟩) (cp w1) (xs.take E) [76,m] w2 HT2.o (byt_take HX.o E) HMR.o (by have:=HM.o;intro c hc;simp at hc;omega) hN2 p (by rw [List.take_take,Nat.min_eq_left hN2];exact HP.o)).mono ?_
    rintro e w' ⟨rfl,rfl⟩
    cases p
    ·have HWF:=Hz (show wrong m E xs=2 from by rw [HWR.o,if_neg (by simp)])
     go_wp2
     go_ret
     exact⟨by rw [HWF.o];rfl,fun h=>by rw [HWF.o] at h;omega,fun _=>HL2.o,Keep.of_below HL2.o⟩
    ·go_wp2_with fail
     refine (zeros_any _ _ _ (xs.drop (E+4)) w2 HZ2.o z (by rw [HZ.o,List.length_drop,HNN.o,show 64-(E+4)=60-E by omega])).mono ?_
     rintro e w' ⟨rfl,rfl⟩
     cases z
     ·have HWF:=Hz (show wrong m E xs=2 from by rw [HWR.o,if_neg (by simp)])
      go_wp2
      go_ret
      exact⟨by rw [HWF.o];rfl,fun h=>by rw [HWF.o] at h;omega,fun _=>HL2.o,Keep.of_below HL2.o⟩
     ·go_wp2_with fail
      refine (sumOf_any _ _ _ (xs.take E) w2 HT2.o (byt_take HX.o E)).mono ?_
      rintro e w3 ⟨A3,n3,c3,rfl,hown3,hb3⟩
      have HR3:=Hz (Rd.own hown3)
      obtain rfl:4=n3:=by have:=Rd.nats HR3.o;rw [Wx] at this;omega
      have HL3:=Hz (HL2.o.trans (hb3.mono HL2.o.size))
      have HT3:=Hz (HT2.o.below hb3)
      have HS3:=Hz (HS2.o.below hb3)
      clear hown3 hb3 HT2 HS2 HZ2 HMR
      go_wp2_with fail
      refine (Beq.Jn _ _ _ _ _ _ ((xs.drop E).take 4) (s4 (xs.take E)) w3 HS3.o HR3.o (byt_take (byt_drop HX.o E) 4) (pbn_lt _ _)).mono ?_
      rintro e w' ⟨rfl,rfl⟩
      rw [show decide ((xs.drop E).take 4=s4 (xs.take E))=d from by rw [Bool.eq_iff_iff,decide_eq_true_eq];exact HD.o.symm]
      cases d
      ·have HWF:=Hz (show wrong m E xs=10 from by rw [HWR.o,if_pos (by simp),if_neg (by simp)])
       go_wp2
       go_ret
       exact⟨by rw [HWF.o];rfl,fun h=>by rw [HWF.o] at h;omega,fun _=>HL3.o,Keep.of_below HL3.o⟩
      ·have HWT:=Hz (show wrong m E xs=0 from by rw [HWR.o,if_pos (by simp),if_pos rfl])
       have k1:(2:Int)≤(E:Int):=by omega
       have k2:E≤c:=by omega
       have k3:2<c:=by omega
       go_wp2_with fail
       have HRD:=Hz (show Rd w3 (some ⟨b,o+2,none⟩) (E-2) (c-2) (NumA.u8s (nl ((xs.take E).drop 2))) from by
        have h1:=TabR.Rd.drop HT3.o (k:=2) (by omega)
        rw [←J3]
        simpa [u8n,List.map_drop] using h1)
       refine (TabR.Vh _ _ _ (nl ((xs.take E).drop 2)) w3 HRD.o (by omega)).mono ?_
       rintro e w4 ⟨rb,rfl,hrb,hST4,hb4⟩
       have HL4:=Hz (HL3.o.trans (hb4.mono HL3.o.size))
       have hrb2:w.heap.size≤rb:=Ml HL3.o.size hrb
       have HST4:=Hz hST4
       clear hrb hST4 hb4 HL3 HT3 HS3 HR3 HRD k1 k2 k3 HL2 HL1
       go_wp2_with fail
       go_loopw [66] (fun i wr=>∃k':Nat,k'≤k∧i=.int .i64 k'∧Hid (TabR.St wr rb (nl (((xs.take E).drop 2).drop ((ws.take k').sum))) 0)∧Hid (Blk wr g t2 (vals (upd ws xs V k')))∧Hid (Keep (fun i=>i=g) w wr)) (fun i _=>k-(intOf i).toNat)
       case atStart=>exact⟨0,by omega,rfl,by simpa using HST4,Hz (by have h1:=HG.o.below HL4.o;simpa [upd] using h1),Hz (Keep.of_below HL4.o)⟩
       case round=>
        obtain⟨j,hj,rfl,hS,hG,hK⟩:=hrel
        have hKs:=hK.o.size
        have hrl:=TabR.St.lt hS.o
        by_cases hjk:j<k
        ·have hjF:j<ws.length:=by have:=HQ.o;omega
         have hBr:=hK.o.blk HB.o (by show ¬gb=g;exact hne)
         have q0:=hBr.cell (i:=j*2) (fcells_at hjF)
         have q1:=hBr.cell (i:=j*2+1) (fcells_wd hjF)
         have HS:=Hz (sum_next hjF)
         have HUS:=Hz (upd_set (xs:=xs) (V:=V) hjF (by have:=HQ.o;have:=HV.o;omega))
         have hx6:=HW.o _ (Me_ hjF)
         obtain⟨x,hx⟩:∃x,x=ws[j]:=⟨_,rfl⟩
         rw [←hx] at q1 HS HUS hx6
         clear hx hBr
         obtain⟨u,hu⟩:∃u,(vals (upd ws xs V j))[j]?=some u:=⟨_,Mq (by rw [Gh];unfold upd;rw [Ma,Mk_,Uy,List.length_drop];have:=HV.o;omega)⟩
         have HU:=Hz hu
         have HWD:=Hz (wd_of hx6.1 hx6.2)
         have HLE:=Hz (show (ws.take j).sum+x+2≤E from by have h1:=HN.o;have h2:=sum_le ws (j+1);have h3:=HS.o;omega)
         clear hu hx6
         go_wp2_with fail
         have HB5:=Hz (Blk.new wr 193 [.pointer (some ⟨g,j,none⟩),.int .i64 (x:Nat)])
         have hb5:Bw wr (wr.alloc (.cells [.pointer (some ⟨g,j,none⟩),.int .i64 (x:Nat)].toArray 193)):=(Mb _ _).alloc (Mr _) _
         have HK5:=Hz (hK.o.trans (Keep.of_below (F:=fun i=>i=g) hb5) (fun _ h=>.inl h))
         have HS5:=Hz (TabR.St.below hS.o hb5)
         have HG5:=Hz (hG.o.below hb5)
         obtain⟨bx,hbx⟩:∃bx,bx=wr.heap.size:=⟨_,rfl⟩
         rw [←hbx] at HB5
         rw [←hbx]
         have hgbx:g<bx:=by omega
         have hrbx:rb<bx:=by omega
         clear hbx q0 q1 hb5 hS hG hK
         generalize hw5:wr.alloc (.cells [.pointer (some ⟨g,j,none⟩),.int .i64 (x:Nat)].toArray 193)=w5 at *
         clear hw5
         have r0:=HB5.o.cell (i:=0) rfl
         have r1:=HB5.o.cell (i:=1) rfl
         have hbl:=HB5.o.lt
         have hnb:bx≠rb:=by omega
         have hng:g≠rb:=by omega
         have HNUM:=Hz (TabR.num_ok rb (x:Nat) _ w5.drew (show TabR.St w5.drew rb _ 0 from HS5.o) (by
          rw [HWD.o,Ww,List.length_drop,List.length_drop,Mk_]
          have h1:=HLE.o;have h2:=HNN.o;omega) (nl_255 (byt_drop (byt_drop (byt_take HX.o _) _) _)))
         go_region_held3 (fun w'=>w'.cell? ⟨bx,0,none⟩=some (.pointer (some ⟨g,j,none⟩))∧w'.cell? ⟨bx,1,none⟩=some (.int .i64 (x:Nat)))
          (first|go_keep|exact⟨HB6.o.cell (i:=0) rfl,HB6.o.cell (i:=1) rfl⟩|exact⟨((Keep.set (F:=fun q=>q=g) w6 j _ rfl).blk HB6.o (by show ¬bx=g;omega)).cell (i:=0) rfl,((Keep.set (F:=fun q=>q=g) w6 j _ rfl).blk HB6.o (by show ¬bx=g;omega)).cell (i:=1) rfl⟩)
          ((go_at_call 175;refine HNUM.o.mono ?_;rintro e w6 ⟨rfl,hS6,hg6⟩;
            have HK6:=Hz (show Keep (fun i=>i=rb) w5 w6 from Keep.grown (w:=w5) ⟨hg6.os,hg6.tape,hg6.output,hg6.size,hg6.block⟩ (fun k hk=>by injection hk with hk;exact hk.symm));have HB6:=Hz (HK6.o.blk HB5.o (by show ¬bx=rb;exact hnb));have HG6:=Hz (HK6.o.blk HG5.o (by show ¬g=rb;exact hng));have HS6:=Hz hS6;have c6:=HG6.o.cell HU.o;have f6:=HG6.o.frozen j;clear hS6 hg6))
         have HNM:=Hz (show TabR.num (List.take (NumA.wd (x:Nat)) (nl (List.drop (2+(List.take j ws).sum) (List.take E xs))))=nm xs (2+(ws.take j).sum) x from by
          have h1:=num_nm (xs:=xs) (E:=E) (S:=(ws.take j).sum) (x:=x) (by have:=HLE.o;omega)
          rw [List.drop_drop] at h1
          rw [HWD.o]
          exact h1)
         rw [HNM.o]
         have HG7:=Hz (show Blk (w6.setCell ⟨g,j,none⟩ (.int .i64 (nm xs (2+(ws.take j).sum) x))) g t2 (vals (upd ws xs V (j+1))) from by
          have h1:=Blk.set HG6.o j (.int .i64 (nm xs (2+(ws.take j).sum) x))
          rw [HUS.o] at h1
          exact h1)
         have HS7:=Hz (show TabR.St (w6.setCell ⟨g,j,none⟩ (.int .i64 (nm xs (2+(ws.take j).sum) x))) rb (nl (((xs.take E).drop 2).drop ((ws.take (j+1)).sum))) 0 from by
          have h1:=St.set_other HS6.o HG6.o (fun h=>hng h.symm) j (.int .i64 (nm xs (2+(ws.take j).sum) x))
          rw [HWD.o] at h1
          rw [HS.o,←List.drop_drop]
          have e:nl ((((xs.take E).drop 2).drop ((ws.take j).sum)).drop x)=(nl (((xs.take E).drop 2).drop ((ws.take j).sum))).drop x:=by simp [nl,List.map_drop]
          rw [e]
          exact h1)
         have HK7:=Hz (show Keep (fun i=>i=g) w (w6.setCell ⟨g,j,none⟩ (.int .i64 (nm xs (2+(ws.take j).sum) x))) from (HK5.o.trans HK6.o (fun k hk=>.inr (by rw [show k=rb from hk];exact hrb2))).trans (Keep.set (F:=fun i=>i=g) w6 j _ rfl) (fun _ h=>.inl h))
         generalize w6.setCell ⟨g,j,none⟩ (.int .i64 (nm xs (2+(ws.take j).sum) x))=w7 at *
         clear c6 f6 r0 r1
         go_wp2
         go_roundw
         case rel=>exact⟨j+1,by omega,by go_num,HS7,HG7,HK7⟩
         case measure=>simp [intOf];omega
        ·obtain rfl:j=k:=by omega
         have hE:(((xs.take E).drop 2).drop ((ws.take j).sum))=[]:=by
          rw [Mt (by have:=HQ.o;omega)]
          refine List.drop_of_length_le ?_
          rw [List.length_drop,Mk_]
          have:=HN.o
          omega
         rw [hE] at hS
         have HU:=Hz (show upd ws xs V j=numsOf ws xs from by have h1:=HQ.o;rw [←h1];exact qwi ws xs V (by have:=HV.o;omega))
         go_wp2_with (go_at_call 177;refine (TabR.end_ok rb _ hS.o).mono ?_;rintro e w' ⟨rfl,rfl⟩)
         go_ret
         exact⟨by rw [HWT.o];rfl,fun _=>by rw [←HU.o];exact hG.o,fun h=>absurd HWT.o h,hK.o⟩
 ·have hx64:((n:Int) != 64)=true:=by simp;omega
  have hwr:wrong m N xs=14:=by unfold wrong;rw [if_pos (by omega)]
  rw [hwr]
  clear hR hB hG hmw
  go_enter Tryz.func152,Tryz.ntmps152
  go_wp2
  go_ret
  exact⟨rfl,fun h=>by omega,fun _=>Mb _ _,Keep.refl _ _⟩
end RecL
end Go.Proofs.YtpidbddllnidhaaGreatDoor
