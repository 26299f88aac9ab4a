/- Parts of the proof, each under the conditions that it names. -/
import Derived.Test.YtpidbddllnidhaaGreatDoorO11
set_option maxRecDepth 100000
set_option maxHeartbeats 12800000
namespace Go.Proofs.YtpidbddllnidhaaGreatDoor
open Go.RowKit
namespace TabK
open Kit Mem TabA TabB TabC TabD TabH TabI
def lastOf (W:List Tri):Nat→Int
 | 0=>-1
 | k+1=>match W[k]? with
   | some r=>r.b
   | none=>-1
theorem lastOf_next {W:List Tri} {k:Nat} {r:Tri} (h:W[k]?=some r):lastOf W (k+1)=r.b:=by simp [lastOf,h]
structure Used (F:Nat) (W:List Tri) (k:Nat) (U:List Bool):Prop where
 len:U.length=F
 below:∀x:Nat,U.getD x false=true→(x:Int)<endAt W k
 last:∀x:Nat,0<k→lastOf W k≤(x:Int)→(x:Int)<endAt W k→U.getD x false=true
theorem Used.zero (F:Nat) (W:List Tri):Used F W 0 (List.replicate F false):=
 ⟨by simp,fun x h=>by
  rw [Mg,List.getElem?_replicate] at h
  split at h <;> simp at h,fun _ h=>by omega⟩
theorem Used.next {F:Nat} {W:List Tri} {k:Nat} {U U':List Bool} {r:Tri} (h:Used F W k U) (hr:W[k]?=some r) (hl:U'.length=F) (he:endAt W k≤r.b) (hc:1≤r.c) (hU:∀x:Nat,U'.getD x false=true↔U.getD x false=true∨(r.b≤(x:Int)∧(x:Int)<r.b+r.c)):Used F W (k+1) U':=
 ⟨hl,fun x hx=>by
  rw [endAt_next hr]
  rcases (hU x).1 hx with h1|h1
  ·have:=h.below x h1;omega
  ·exact h1.2,fun x _ h1 h2=>by
  rw [endAt_next hr] at h2
  rw [lastOf_next hr] at h1
  exact (hU x).2 (.inr ⟨h1,h2⟩)⟩
theorem qva (F:Nat):List.replicate F (Value.bool false)=bs (List.replicate F false):=by simp [bs]
theorem Gl (U:List Bool) (q:Nat) (hq:q<U.length) (x:Nat):(U.set q true).getD x false=true↔U.getD x false=true∨x=q:=by
 rw [Mg,List.getElem?_set]
 by_cases h:q=x
 ·subst h
  rw [if_pos rfl,if_pos hq];simp
 ·rw [if_neg h,Mg]
  exact⟨.inl,fun h1=>by
   rcases h1 with h1|h1
   ·exact h1
   ·exact absurd h1.symm h⟩
structure WS (w:World) (t:Ta) (gU:Nat) (U:List Bool) (wr:World):Prop where
 bx:Bx w t wr
 ub:Blk wr gU 4 (bs U)
 lo:w.heap.size<gU
section
variable {w wr w':World} {t:Ta} {gU:Nat} {U:List Bool}
theorem WS.step (h:WS w t gU U wr) (hb:Bw wr w'):WS w t gU U w':=⟨h.bx.step hb,h.ub.below hb,h.lo⟩
theorem WS.alloc (h:WS w t gU U wr) (o:Obj):WS w t gU U (wr.alloc o):=h.step ((Mb _ _).alloc (Mr _) o)
theorem WS.set (h:WS w t gU U wr) (k:Nat) (v:Bool):WS w t gU (U.set k v) (wr.setCell ⟨gU,k,none⟩ (.bool v)):=by
 have h1:=h.lo
 exact⟨⟨h.bx.blk.far (by show w.heap.size≠gU;omega) _,h.bx.bel.setCell (by show w.heap.size≤gU;omega) _⟩,by rw [←bs_set];exact h.ub.set k _,h.lo⟩
theorem WS.at_ (h:WS w t gU U wr) {k:Nat} (hk:k<U.length):wr.cell? ⟨gU,k,none⟩=some (.bool (U.getD k false)):=h.ub.cell (bs_at hk)
end
theorem Vu (t:Ta) (w:World) (h:t.ok w) (b:Bool) (hb:b=true↔right t):Calls Tryz.prog 9 #[t.val] w (Yes w b):=by
 obtain⟨i0,hi0,hz0,hz1,hz2⟩:=TabI.Vq qz9
 obtain⟨fr,A1,n1,c1,P,A2,n2,c2,W,A3,n3,c3,C,tr⟩:=t
 have hm1:n1≤9223372036854775807:=h.P.le
 have hm2:n2≤9223372036854775807:=h.W.le
 have hm3:n3≤9223372036854775807:=h.C.le
 have HL1:=Hz (show P.length=n1 from h.P.1)
 have HL2:=Hz (show W.length=n2 from h.W.1)
 have HL3:=Hz (show C.length=n3 from h.C.1)
 have HB:=Hz (show b=true↔(1≤fr∧fr≤64)∧(1≤tr∧tr≤7)∧PartsOk P∧WinsOk n1 fr W∧ChansOk n1 C from by rw [←HL1.o];exact hb)
 have HO:=Hz h
 clear h hb
 have HX:=Hz (Bx.new w ⟨fr,A1,n1,c1,P,A2,n2,c2,W,A3,n3,c3,C,tr⟩)
 have HF:=Hz (show ∀p:Prop,(b=true→p)→¬p→b=false from fun p h hp=>by rw [Bool.eq_false_iff];exact fun hb=>hp (h hb))
 show Calls _ _ #[.agg #[.int .i64 fr,.slice A1 n1 c1,.slice A2 n2 c2,.slice A3 n3 c3,.int .i64 tr]] w _
 by_cases g1:fr<1
 ·skip
  have hbf:=Hz (HF.o _ (fun h=>(HB.o.1 h).1) (by have:=HL1.o;have:=HL2.o;have:=HL3.o;omega))
  go_enter Tryz.func9,Tryz.ntmps9
  go_wp2
  go_ret
  exact⟨by rw [hbf.o];rfl,HX.o.bel⟩
 ·skip
  by_cases g2:64<fr
  ·skip
   have hbf:=Hz (HF.o _ (fun h=>(HB.o.1 h).1) (by have:=HL1.o;have:=HL2.o;have:=HL3.o;omega))
   go_enter Tryz.func9,Tryz.ntmps9
   go_wp2
   go_ret
   exact⟨by rw [hbf.o];rfl,HX.o.bel⟩
  ·skip
   by_cases g3:(n1:Int)<2
   ·skip
    have hbf:=Hz (HF.o _ (fun h=>(show 2≤P.length∧P.length≤4 from (HB.o.1 h).2.2.1.1)) (by have:=HL1.o;have:=HL2.o;have:=HL3.o;omega))
    go_enter Tryz.func9,Tryz.ntmps9
    go_wp2
    go_ret
    exact⟨by rw [hbf.o];rfl,HX.o.bel⟩
   ·skip
    by_cases g4:4<(n1:Int)
    ·skip
     have hbf:=Hz (HF.o _ (fun h=>(show 2≤P.length∧P.length≤4 from (HB.o.1 h).2.2.1.1)) (by have:=HL1.o;have:=HL2.o;have:=HL3.o;omega))
     go_enter Tryz.func9,Tryz.ntmps9
     go_wp2
     go_ret
     exact⟨by rw [hbf.o];rfl,HX.o.bel⟩
    ·skip
     by_cases g5:tr<1
     ·skip
      have hbf:=Hz (HF.o _ (fun h=>(HB.o.1 h).2.1) (by have:=HL1.o;have:=HL2.o;have:=HL3.o;omega))
      go_enter Tryz.func9,Tryz.ntmps9
      go_wp2
      go_ret
      exact⟨by rw [hbf.o];rfl,HX.o.bel⟩
     ·skip
      by_cases g6:7<tr
      ·skip
       have hbf:=Hz (HF.o _ (fun h=>(HB.o.1 h).2.1) (by have:=HL1.o;have:=HL2.o;have:=HL3.o;omega))
       go_enter Tryz.func9,Tryz.ntmps9
       go_wp2
       go_ret
       exact⟨by rw [hbf.o];rfl,HX.o.bel⟩
      ·skip
       by_cases g7:8<(n2:Int)
       ·skip
        have hbf:=Hz (HF.o _ (fun h=>(show W.length≤8 from (HB.o.1 h).2.2.2.1.1)) (by have:=HL1.o;have:=HL2.o;have:=HL3.o;omega))
        go_enter Tryz.func9,Tryz.ntmps9
        go_wp2
        go_ret
        exact⟨by rw [hbf.o];rfl,HX.o.bel⟩
       ·skip
        by_cases g8:4<(n3:Int)
        ·skip
         have hbf:=Hz (HF.o _ (fun h=>(show C.length≤4 from (HB.o.1 h).2.2.2.2.1)) (by have:=HL1.o;have:=HL2.o;have:=HL3.o;omega))
         go_enter Tryz.func9,Tryz.ntmps9
         go_wp2
         go_ret
         exact⟨by rw [hbf.o];rfl,HX.o.bel⟩
        ·skip
         obtain⟨F,hF⟩:∃F:Nat,fr=F:=⟨fr.toNat,by omega⟩
         subst hF
         go_enter Tryz.func9,Tryz.ntmps9
         go_wp2_with fail
         go_loopw [4] (fun i wr=>∃k:Nat,k≤n1∧i=.int .i64 k∧Hid (upto (fun _=>PartOk) P k)∧Hid (Bx w ⟨(F:Int),A1,n1,c1,P,A2,n2,c2,W,A3,n3,c3,C,tr⟩ wr)) (fun i _=>n1-(intOf i).toNat)
         case atStart=>exact⟨0,Nat.zero_le _,rfl,Hz upto.zero,HX⟩
         case round=>
          obtain⟨k,hk,rfl,HU,HX1⟩:=hrel
          have hsz:=HX1.o.sz
          obtain⟨z0,z1,z2,z3,z4⟩:=HX1.o.cell
          dsimp only at z0 z1 z2 z3 z4
          by_cases hlt:k<n1
          ·obtain⟨r,b',o,hr,hok,hA,hb',q0,q1,q2⟩:=(HO.o.below HX1.o.bel).P.at_ hlt
           dsimp only at hr hA
           subst hA
           have HNP:=Hz (fun hp : ¬PartOk r=>HF.o _ (fun h=>(show PartOk r from (HB.o.1 h).2.2.1.2 k r hr)) hp)
           have HRR:=Hz hr
           obtain⟨oa0,oa1,ob0,ob1,oc0,oc1⟩:=hok
           clear hr
           by_cases p1:r.a<1
           ·skip
            have hbf:=Hz (HNP.o (fun h=>by have h1:=h.1;have h2:=h.2.1;have h3:=h.2.2;omega))
            go_wp2
            go_ret
            exact⟨by rw [hbf.o];rfl,(HX1.o.alloc _).bel⟩
           ·skip
            by_cases p2:16<r.a
            ·skip
             have hbf:=Hz (HNP.o (fun h=>by have h1:=h.1;have h2:=h.2.1;have h3:=h.2.2;omega))
             go_wp2
             go_ret
             exact⟨by rw [hbf.o];rfl,(HX1.o.alloc _).bel⟩
            ·skip
             by_cases p3:r.b<1
             ·skip
              have hbf:=Hz (HNP.o (fun h=>by have h1:=h.1;have h2:=h.2.1;have h3:=h.2.2;omega))
              go_wp2
              go_ret
              exact⟨by rw [hbf.o];rfl,(HX1.o.alloc _).bel⟩
             ·skip
              by_cases p4:32<r.b
              ·skip
               have hbf:=Hz (HNP.o (fun h=>by have h1:=h.1;have h2:=h.2.1;have h3:=h.2.2;omega))
               go_wp2
               go_ret
               exact⟨by rw [hbf.o];rfl,(HX1.o.alloc _).bel⟩
              ·skip
               by_cases p5:r.c<0
               ·skip
                have hbf:=Hz (HNP.o (fun h=>by have h1:=h.1;have h2:=h.2.1;have h3:=h.2.2;omega))
                go_wp2
                go_ret
                exact⟨by rw [hbf.o];rfl,(HX1.o.alloc _).bel⟩
               ·skip
                by_cases p6:65535<r.c
                ·skip
                 have hbf:=Hz (HNP.o (fun h=>by have h1:=h.1;have h2:=h.2.1;have h3:=h.2.2;omega))
                 go_wp2
                 go_ret
                 exact⟨by rw [hbf.o];rfl,(HX1.o.alloc _).bel⟩
                ·skip
                 go_wp2
                 go_roundw
                 case rel=>exact⟨k+1,by omega,by go_num,Hz (HU.o.next HRR.o (show PartOk r from⟨by omega,by omega,by omega⟩)),Hz (HX1.o.alloc _)⟩
                 case measure=>simp [intOf];omega
          ·obtain rfl:n1=k:=by omega
           have HPO:=Hz (show PartsOk P from⟨by have:=HL1.o;omega,by have h:=HU.o;rw [←HL1.o] at h;exact h.all⟩)
           clear hsz
           go_upto_region 11 with (at_make;refine Qx _ rfl _ _ _ rfl 4 i0 _ 1 Tryz.underlying91 hi0 hz0 hz1 hz2 rfl _ _ _ _ F F rfl rfl (by omega) (by omega) (by omega) (by omega) (by omega) ?_;intro w4 hB4 hb4 hs4)
           have HW0:=Hz (show WS w ⟨(F:Int),A1,n1,c1,P,A2,n2,c2,W,A3,n3,c3,C,tr⟩ wr.heap.size (List.replicate F false) w4 from⟨HX1.o.step hb4,(by rw [←qva];exact hB4.o),HX1.o.sz⟩)
           obtain⟨gU,hgU⟩:∃gU,gU=wr.heap.size:=⟨_,rfl⟩
           rw [←hgU] at HW0 ⊢
           clear hgU hB4 hb4 hs4 z0 z1 z2 z3 z4 HX1
           obtain⟨z0,z1,z2,z3,z4⟩:=HW0.o.bx.cell
           dsimp only at z0 z1 z2 z3 z4
           go_wp2_with fail
           clear z0 z1 z2 z3 z4
           go_loopw [7,8,9] (fun l f i wr=>∃(k:Nat) (lv ev:Int) (mb:Bool) (U:List Bool),k≤n2∧i=.int .i64 k∧l=.int .i64 lv∧f=.bool mb∧Hid (lv=lastOf W k)∧Hid (ev=endAt W k)∧-1≤lv∧lv<ev∧0≤ev∧ev≤(F:Int)∧Hid (mb=true↔maint W k)∧Hid (upto (WinOk n1 (F:Int) W) W k)∧Hid (Used F W k U)∧Hid (WS w ⟨(F:Int),A1,n1,c1,P,A2,n2,c2,W,A3,n3,c3,C,tr⟩ gU U wr)) (fun _ _ i _=>n2-(intOf i).toNat)
           case atStart=>exact⟨0,-1,0,false,_,Nat.zero_le _,rfl,rfl,rfl,Hz rfl,Hz rfl,by omega,by omega,by omega,by omega,Hz ⟨fun h=>(by cases h),fun⟨_,_,h,_⟩=>by omega⟩,Hz upto.zero,Hz (Used.zero F W),HW0⟩
           case round=>
            obtain⟨k,lv,ev,mb,U,hk,rfl,rfl,rfl,HLV,HEV,l0,l1,e0,e1,HMT,HUP,HUS,HWr⟩:=hrel
            have hszU:=HWr.o.ub.lt
            have hsz:=HWr.o.bx.sz
            obtain⟨z0,z1,z2,z3,z4⟩:=HWr.o.bx.cell
            dsimp only at z0 z1 z2 z3 z4
            clear HW0
            by_cases hlt:k<n2
            ·obtain⟨r,b',o,hr,hok,hA,hb',q0,q1,q2⟩:=(HO.o.below HWr.o.bx.bel).W.at_ hlt
             dsimp only at hr hA
             subst hA
             have HNW:=Hz (fun hp : ¬WinOk n1 (F:Int) W k r=>HF.o _ (fun h=>(show WinOk n1 (F:Int) W k r from (HB.o.1 h).2.2.2.1.2.1 k r hr)) hp)
             have HRR:=Hz hr
             obtain⟨oa0,oa1,ob0,ob1,oc0,oc1⟩:=hok
             clear hr
             by_cases q1x:r.a<0
             ·skip
              have hbf:=Hz (HNW.o (fun h=>by have h1:=h.1;have h2:=h.2.1;have h3:=h.2.2;have h4:=HEV.o;omega))
              go_wp2
              go_ret
              exact⟨by rw [hbf.o];rfl,(HWr.o.alloc _).bx.bel⟩
             ·skip
              by_cases q2x:(n1:Int)≤r.a
              ·skip
               have hbf:=Hz (HNW.o (fun h=>by have h1:=h.1;have h2:=h.2.1;have h3:=h.2.2;have h4:=HEV.o;omega))
               go_wp2
               go_ret
               exact⟨by rw [hbf.o];rfl,(HWr.o.alloc _).bx.bel⟩
              ·skip
               by_cases q3x:r.b<0
               ·skip
                have hbf:=Hz (HNW.o (fun h=>by have h1:=h.1;have h2:=h.2.1;have h3:=h.2.2;have h4:=HEV.o;omega))
                go_wp2
                go_ret
                exact⟨by rw [hbf.o];rfl,(HWr.o.alloc _).bx.bel⟩
               ·skip
                by_cases q4x:(F:Int)≤r.b
                ·skip
                 have hbf:=Hz (HNW.o (fun h=>by have h1:=h.1;have h2:=h.2.1;have h3:=h.2.2;have h4:=HEV.o;omega))
                 go_wp2
                 go_ret
                 exact⟨by rw [hbf.o];rfl,(HWr.o.alloc _).bx.bel⟩
                ·skip
                 by_cases q5x:r.c<1
                 ·skip
                  have hbf:=Hz (HNW.o (fun h=>by have h1:=h.1;have h2:=h.2.1;have h3:=h.2.2;have h4:=HEV.o;omega))
                  go_wp2
                  go_ret
                  exact⟨by rw [hbf.o];rfl,(HWr.o.alloc _).bx.bel⟩
                 ·skip
                  by_cases q6x:64<r.c
                  ·skip
                   have hbf:=Hz (HNW.o (fun h=>by have h1:=h.1;have h2:=h.2.1;have h3:=h.2.2;have h4:=HEV.o;omega))
                   go_wp2
                   go_ret
                   exact⟨by rw [hbf.o];rfl,(HWr.o.alloc _).bx.bel⟩
                  ·skip
                   by_cases q7x:(F:Int)<r.b+r.c
                   ·skip
                    have hbf:=Hz (HNW.o (fun h=>by have h1:=h.1;have h2:=h.2.1;have h3:=h.2.2;have h4:=HEV.o;omega))
                    go_wp2
                    go_ret
                    exact⟨by rw [hbf.o];rfl,(HWr.o.alloc _).bx.bel⟩
                   ·skip
                    by_cases q8x:r.b≤lv
                    ·skip
                     have hbf:=Hz (HNW.o (fun h=>by have h1:=h.1;have h2:=h.2.1;have h3:=h.2.2;have h4:=HEV.o;omega))
                     go_wp2
                     go_ret
                     exact⟨by rw [hbf.o];rfl,(HWr.o.alloc _).bx.bel⟩
                    ·skip
                     have HWO:=Hz (fun h:ev≤r.b=>(show WinOk n1 (F:Int) W k r from⟨by omega,by rw [←HEV.o];exact h,by omega⟩))
                     obtain⟨bn',hbn⟩:∃bn':Nat,r.b=bn':=⟨r.b.toNat,by omega⟩
                     obtain⟨cn,hcn⟩:∃cn:Nat,r.c=cn:=⟨r.c.toNat,by omega⟩
                     have HBN:=Hz hbn
                     have HCN:=Hz hcn
                     have HNXT:=Hz (endAt_next HRR.o)
                     have HNXL:=Hz (lastOf_next HRR.o)
                     have HMNX:=Hz (maint.next HRR.o)
                     rw [hbn] at q1
                     rw [hcn] at q2
                     rw [hbn] at q3x q4x q8x q7x
                     rw [hcn] at q5x q6x q7x
                     have hfb:(bn':Int)<(F:Int):=by omega
                     have HFB:=Hz (show bn'<F from by omega)
                     have hbc:bn'+cn≤F:=by omega
                     go_upto_region 19 with (fail)
                     have HWc:=Hz (HWr.o.alloc (.cells #[.int .i64 r.a,.int .i64 (bn':Int),.int .i64 (cn:Int)] 93))
                     have hbx:=Blk.new wr 93 [.int .i64 r.a,.int .i64 (bn':Int),.int .i64 (cn:Int)]
                     have hsc:wr.heap.size<(wr.alloc (.cells #[.int .i64 r.a,.int .i64 (bn':Int),.int .i64 (cn:Int)] 93)).heap.size:=by simp
                     obtain⟨wc,hwc⟩:∃wc,wc=wr.alloc (.cells #[.int .i64 r.a,.int .i64 (bn':Int),.int .i64 (cn:Int)] 93):=⟨_,rfl⟩
                     have hbx':Blk wc wr.heap.size 93 [.int .i64 r.a,.int .i64 (bn':Int),.int .i64 (cn:Int)]:=by rw [hwc];exact hbx
                     rw [←hwc] at HWc hsc ⊢
                     clear hwc hbx z0 z1 z2 z3 z4 q0 q1 q2
                     obtain⟨gw,hgw⟩:∃gw,gw=wr.heap.size:=⟨_,rfl⟩
                     rw [←hgw] at hbx' hsc hszU hb' ⊢
                     have HGW:=Hz hgw
                     clear hgw
                     have HBX:=Hz hbx'
                     have p0:=hbx'.cell (i:=0) (v:=.int .i64 r.a) rfl
                     have p1:=hbx'.cell (i:=1) (v:=.int .i64 (bn':Int)) rfl
                     have p2:=hbx'.cell (i:=2) (v:=.int .i64 (cn:Int)) rfl
                     clear hbx'
                     by_cases hE:ev≤(bn':Int)
                     ·have HE:=Hz hE
                      have HWK:=Hz (HWO.o (by rw [HBN.o];exact hE))
                      go_wp2_with fail
                      clear p0 p1 p2
                      go_loopw [11] (fun x wr=>∃(q:Nat) (U':List Bool),x=.int .i64 (q:Int)∧bn'≤q∧q≤bn'+cn∧Hid (U'.length=F)∧Hid (∀x:Nat,U'.getD x false=true↔U.getD x false=true∨(bn'≤x∧x<q))∧Hid (WS w ⟨(F:Int),A1,n1,c1,P,some ⟨b',o,none⟩,n2,c2,W,A3,n3,c3,C,tr⟩ gU U' wr)∧Hid (Blk wr gw 93 [.int .i64 r.a,.int .i64 (bn':Int),.int .i64 (cn:Int)])) (fun x _=>bn'+cn-(intOf x).toNat)
                      case atStart=>exact⟨bn',U,rfl,Mr _,by omega,Hz HUS.o.len,Hz (fun x=>⟨.inl,fun h=>by
                       rcases h with h|h
                       ·exact h
                       ·omega⟩),HWc,HBX⟩
                      case round=>
                       obtain⟨q,U',rfl,hq0,hq1,HUL,HUX,HWq,HBq⟩:=hrel
                       have p1:=HBq.o.cell (i:=1) (v:=.int .i64 (bn':Int)) rfl
                       have p2:=HBq.o.cell (i:=2) (v:=.int .i64 (cn:Int)) rfl
                       have p0:=HBq.o.cell (i:=0) (v:=.int .i64 r.a) rfl
                       by_cases hqt:q<bn'+cn
                       ·have hqF:q<F:=by omega
                        have hqFi:(q:Int)<(F:Int):=by omega
                        have hq0i:(0:Int)≤(q:Int):=by omega
                        have u0:=HWq.o.at_ (k:=q) (by rw [HUL.o];exact hqF)
                        have huf:U'.getD q false=false:=by
                         rw [Bool.eq_false_iff]
                         intro h
                         rcases (HUX.o q).1 h with h1|h1
                         ·have:=HUS.o.below q h1;have:=HEV.o;have:=HE.o;omega
                         ·omega
                        rw [huf] at u0
                        have f0:=HWq.o.ub.frozen q
                        have HUN:=Hz (HWq.o.set q true)
                        have HUXN:=Hz (fun x=>Gl U' q (by rw [HUL.o];exact hqF) x)
                        have HBN2:=Hz (HBq.o.far (p:=⟨gU,q,none⟩) (by show gw≠gU;omega) (.bool true))
                        clear huf
                        go_wp2_with fail
                        go_roundw
                        case rel=>exact⟨q+1,U'.set q true,by go_num,by omega,by omega,Hz (by simpa using HUL.o),Hz (fun x=>by
                         rw [HUXN.o x,HUX.o x]
                         constructor
                         ·rintro ((h|h)|h)
                          ·exact .inl h
                          ·exact .inr (by omega)
                          ·exact .inr (by omega)
                         ·rintro (h|h)
                          ·exact .inl (.inl h)
                          ·by_cases hx:x=q
                           ·exact .inr hx
                           ·exact .inl (.inr (by omega))),HUN,HBN2⟩
                        case measure=>simp [intOf];omega
                       ·obtain rfl:bn'+cn=q:=by omega
                        have HUSN:=Hz (HUS.o.next HRR.o HUL.o (by rw [←HEV.o,HBN.o];exact HE.o) (by rw [HCN.o];omega) (fun x=>by
                         rw [HUX.o x,HBN.o,HCN.o]
                         constructor
                         ·rintro (h|h)
                          ·exact .inl h
                          ·exact .inr (by omega)
                         ·rintro (h|h)
                          ·exact .inl h
                          ·exact .inr (by omega)))
                        cases mb
                        ·by_cases ha:r.a=0
                         ·have ha':(r.a==0)=true:=by simpa using ha
                          have HA:=Hz ha
                          clear ha
                          go_wp2_with fail
                          go_roundw
                          case rel=>exact⟨k+1,(bn':Int),(bn':Int)+(cn:Int),true,U',by omega,by go_num,rfl,rfl,Hz (by rw [HNXL.o,HBN.o]),Hz (by rw [HNXT.o,HBN.o,HCN.o]),by omega,by omega,by omega,by omega,Hz ⟨fun _=>HMNX.o.2 (.inr HA.o),fun _=>rfl⟩,Hz (HUP.o.next HRR.o HWK.o),HUSN,HWq⟩
                          case measure=>simp [intOf];omega
                         ·have ha':(r.a==0)=false:=by simpa using ha
                          have HA:=Hz ha
                          clear ha
                          go_wp2_with fail
                          go_roundw
                          case rel=>exact⟨k+1,(bn':Int),(bn':Int)+(cn:Int),false,U',by omega,by go_num,rfl,rfl,Hz (by rw [HNXL.o,HBN.o]),Hz (by rw [HNXT.o,HBN.o,HCN.o]),by omega,by omega,by omega,by omega,Hz ⟨fun h=>(by cases h),fun h=>by
                           rcases HMNX.o.1 h with h|h
                           ·exact HMT.o.2 h
                           ·exact absurd h HA.o⟩,Hz (HUP.o.next HRR.o HWK.o),HUSN,HWq⟩
                          case measure=>simp [intOf];omega
                        ·go_wp2_with fail
                         go_roundw
                         case rel=>exact⟨k+1,(bn':Int),(bn':Int)+(cn:Int),true,U',by omega,by go_num,rfl,rfl,Hz (by rw [HNXL.o,HBN.o]),Hz (by rw [HNXT.o,HBN.o,HCN.o]),by omega,by omega,by omega,by omega,Hz ⟨fun _=>HMNX.o.2 (.inl (HMT.o.1 (by first|trivial|rfl))),fun _=>rfl⟩,Hz (HUP.o.next HRR.o HWK.o),HUSN,HWq⟩
                         case measure=>simp [intOf];omega
                     ·have hbf:=Hz (HNW.o (fun h=>by have h2:=h.2.1;have h4:=HEV.o;have:=HBN.o;omega))
                      have u0:=HWc.o.at_ (k:=bn') (by rw [HUS.o.len];exact HFB.o)
                      have hut:U.getD bn' false=true:=by
                       refine HUS.o.last bn' ?_ (by rw [←HLV.o];omega) (by rw [←HEV.o];omega)
                       rcases Nat.eq_zero_or_pos k with hk0|hk0
                       ·have h4:=HEV.o
                        rw [hk0] at h4
                        simp [endAt] at h4
                        omega
                       ·exact hk0
                      rw [hut] at u0
                      have hq0i:(0:Int)≤(bn':Int):=by omega
                      clear hut
                      go_wp2_with fail
                      go_loopw [11] (fun x wr=>x=.int .i64 (bn':Int)∧wc=wr) (fun _ _=>0)
                      case atStart=>exact⟨rfl,rfl⟩
                      case round=>
                       obtain⟨rfl,rfl⟩:=hrel
                       go_wp2_with fail
                       go_ret
                       exact⟨by rw [hbf.o];rfl,HWc.o.bx.bel⟩
            ·obtain rfl:n2=k:=by omega
             have HWP:=Hz (show (∀(k:Nat) (r:Tri),W[k]?=some r→WinOk n1 (F:Int) W k r) from by have h:=HUP.o;rw [←HL2.o] at h;exact h.all)
             have HMW:=Hz (show mb=true↔∃(k:Nat) (r:Tri),W[k]?=some r∧r.a=0 from by
              rw [HMT.o]
              exact⟨fun⟨j,r,_,hr,ha⟩=>⟨j,r,hr,ha⟩,fun⟨j,r,hr,ha⟩=>⟨j,r,by have:=(List.getElem?_eq_some_iff.1 hr).1;have:=HL2.o;omega,hr,ha⟩⟩)
             have HXC:=Hz (HWr.o.bx)
             clear hsz hszU
             go_wp2_with fail
             clear z0 z1 z2 z3 z4
             go_loopw [12] (fun i wr=>∃k:Nat,k≤n3∧i=.int .i64 k∧Hid (upto (fun _=>ChanOk n1) C k)∧Hid (Bx w ⟨(F:Int),A1,n1,c1,P,A2,n2,c2,W,A3,n3,c3,C,tr⟩ wr)) (fun i _=>n3-(intOf i).toNat)
             case atStart=>exact⟨0,Nat.zero_le _,rfl,Hz upto.zero,HXC⟩
             case round=>
              obtain⟨k,hk,rfl,HU3,HX3⟩:=hrel
              have hsz:=HX3.o.sz
              obtain⟨z0,z1,z2,z3,z4⟩:=HX3.o.cell
              dsimp only at z0 z1 z2 z3 z4
              by_cases hlt:k<n3
              ·obtain⟨r,b',o,hr,hok,hA,hb',q0,q1,q2⟩:=(HO.o.below HX3.o.bel).C.at_ hlt
               dsimp only at hr hA
               subst hA
               have HNC:=Hz (fun hp : ¬ChanOk n1 r=>HF.o _ (fun h=>(show ChanOk n1 r from (HB.o.1 h).2.2.2.2.2 k r hr)) hp)
               have HRR:=Hz hr
               obtain⟨oa0,oa1,ob0,ob1,oc0,oc1⟩:=hok
               clear hr
               by_cases d1:r.a<0
               ·skip
                have hbf:=Hz (HNC.o (fun h=>by have h1:=h.1;have h2:=h.2.1;have h3:=h.2.2.1;have h4:=h.2.2.2;omega))
                go_wp2
                go_ret
                exact⟨by rw [hbf.o];rfl,(HX3.o.alloc _).bel⟩
               ·skip
                by_cases d2:(n1:Int)≤r.a
                ·skip
                 have hbf:=Hz (HNC.o (fun h=>by have h1:=h.1;have h2:=h.2.1;have h3:=h.2.2.1;have h4:=h.2.2.2;omega))
                 go_wp2
                 go_ret
                 exact⟨by rw [hbf.o];rfl,(HX3.o.alloc _).bel⟩
                ·skip
                 by_cases d3:r.b<0
                 ·skip
                  have hbf:=Hz (HNC.o (fun h=>by have h1:=h.1;have h2:=h.2.1;have h3:=h.2.2.1;have h4:=h.2.2.2;omega))
                  go_wp2
                  go_ret
                  exact⟨by rw [hbf.o];rfl,(HX3.o.alloc _).bel⟩
                 ·skip
                  by_cases d4:(n1:Int)≤r.b
                  ·skip
                   have hbf:=Hz (HNC.o (fun h=>by have h1:=h.1;have h2:=h.2.1;have h3:=h.2.2.1;have h4:=h.2.2.2;omega))
                   go_wp2
                   go_ret
                   exact⟨by rw [hbf.o];rfl,(HX3.o.alloc _).bel⟩
                  ·skip
                   by_cases d5:r.a=r.b
                   ·have d5':(r.a==r.b)=true:=by simpa using d5
                    have d5H:=Hz d5
                    clear d5
                    have hbf:=Hz (HNC.o (fun h=>by have h1:=h.1;have h2:=h.2.1;have h3:=h.2.2.1;have h4:=h.2.2.2;exact h3 d5H.o))
                    go_wp2
                    go_ret
                    exact⟨by rw [hbf.o];rfl,(HX3.o.alloc _).bel⟩
                   ·have d5':(r.a==r.b)=false:=by simpa using d5
                    have d5H:=Hz d5
                    clear d5
                    by_cases d6:r.c<0
                    ·skip
                     have hbf:=Hz (HNC.o (fun h=>by have h1:=h.1;have h2:=h.2.1;have h3:=h.2.2.1;have h4:=h.2.2.2;omega))
                     go_wp2
                     go_ret
                     exact⟨by rw [hbf.o];rfl,(HX3.o.alloc _).bel⟩
                    ·skip
                     by_cases d7:4<r.c
                     ·skip
                      have hbf:=Hz (HNC.o (fun h=>by have h1:=h.1;have h2:=h.2.1;have h3:=h.2.2.1;have h4:=h.2.2.2;omega))
                      go_wp2
                      go_ret
                      exact⟨by rw [hbf.o];rfl,(HX3.o.alloc _).bel⟩
                     ·skip
                      go_wp2
                      go_roundw
                      case rel=>exact⟨k+1,by omega,by go_num,Hz (HU3.o.next HRR.o (show ChanOk n1 r from⟨by omega,by omega,d5H.o,by omega⟩)),Hz (HX3.o.alloc _)⟩
                      case measure=>simp [intOf];omega
              ·obtain rfl:n3=k:=by omega
               have HCO:=Hz (show ChansOk n1 C from⟨by have:=HL3.o;omega,by have h:=HU3.o;rw [←HL3.o] at h;exact h.all⟩)
               have hbm:=Hz (show b=mb from by
                rw [Bool.eq_iff_iff,HB.o,HMW.o]
                exact⟨fun h=>h.2.2.2.1.2.2,fun h=>⟨⟨by omega,by omega⟩,⟨by omega,by omega⟩,HPO.o,⟨by have:=HL2.o;omega,HWP.o,h⟩,HCO.o⟩⟩)
               go_wp2
               go_ret
               exact⟨by rw [hbm.o];rfl,HX3.o.bel⟩
end TabK
end Go.Proofs.YtpidbddllnidhaaGreatDoor
