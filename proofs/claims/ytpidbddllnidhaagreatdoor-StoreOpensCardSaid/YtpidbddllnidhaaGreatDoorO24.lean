/- Parts of the proof, each under the conditions that it names. -/
import Derived.Test.YtpidbddllnidhaaGreatDoorO23
set_option maxRecDepth 100000
set_option maxHeartbeats 12800000
namespace Go.Proofs.YtpidbddllnidhaaGreatDoor
open Go.RowKit
namespace StoN
open Kit Mem
open ImgT (Ig iG)
open ImgU (Gi)
open RecA (rval rcells rok sval scells sok)
open StgN (Sm DS Sgo)
open CmtN (Lm LS Lgo)
open TabA (Tri Tris Ta)
open TabE (tcells)
open TabG (Nl)
def TF (w:World) (R:List Tri) (e:Ending) (w':World):Prop:=∃A n c,e=.returned (.slice A n c)∧Hid (n=R.length)∧Tris w' A n c R∧(0<n→∀b o,A=some ⟨b,o,none⟩→w.heap.size≤b)∧Bw w w'
section
variable {P:Program} {ops:Array Oper} {rest:List Oper} {o:Oper} {a:Act} {w:World} {Q:Exit→Act→World→Prop}
theorem U0 (hgd:o.guard=none) (s x:Operand) (t:TypeId)
 (ho:o.op=.call { callee:=.builtin .append,args:=#[s,x],argTypes:=#[t,t] })
 (base:Nat) (e:TypeId) (i:TypeInfo) (z:Value) (bytes:Nat) (ht:P.underlying t=some (.slice e)) (hi:P.info? e=some i) (hz:i.zero=some z)
 (hsize:i.size=3) (hby:i.bytes=bytes) (hzs:z.cells.size=3)
 (v:Value) (n:Nat) (xs:List Value) (hs:a.eval s=v) (hown:w.ownsRow base e 3 v n xs)
 (A:Option Addr) (m c:Nat) (R:List Tri) (hx:a.eval x=.slice A m c) (hT:Tris w A m c R)
 (h63:n+m≤1000000000) (hbytes:bytes≤1000) (hbase:base≤w.heap.size)
 (h:∀A' n' c' w',Hid (n'=n+m)→Hid (w'.ownsRow base e 3 (.slice A' n' c') n' (xs++tcells R))→w.grownBy w' v.ownBlock→wpList P ops Q rest (a.put o.dst (.slice A' n' c')) w'):wpList P ops Q (o :: rest) a w:=
 wpList_plain hgd fun _ hK=>TabG.wp_add3 s x t ho base e i z bytes ht hi hz hsize hby hzs v n xs hs hown A m c R hx hT h63 hbytes hbase fun A' n' c' w' h1 h2 h3=>hK _ _ (h A' n' c' w' h1 h2 h3)
end
theorem qjr (A:Option Addr) (n c:Nat) (R:List Tri) (w:World) (h:Tris w A n c R) (hn:n≤1000000):Calls Tryz.prog 67 #[.slice A n c] w (TF w R):=by
 obtain⟨i0,hi0,hz0,hz1,hz2⟩:=TabF.Vq TabF.qw1
 have hl:=h.1
 rcases A with _|ad
 ·obtain rfl:n=0:=by
   rcases Nat.eq_zero_or_pos n with h0|h0
   ·exact h0
   ·obtain⟨b,o,hA,_⟩:=h.2.2.2.2 h0
    cases hA
  obtain rfl:R=[]:=List.eq_nil_of_length_eq_zero hl
  have hnil:=fun (W:World)=>Lib.run_eql_slice_nil (P:=Tryz.prog) W 22 90 none 0 c 0 0 Tryz.underlying22
  clear h hl
  go_enter Tryz.func67,Tryz.ntmps67
  go_wp2
  go_ret
  exact⟨none,0,0,rfl,Hz rfl,Tris.nil w,fun h0=>absurd h0 (by omega),Mb _ _⟩
 ·have HT:=Hz h
  have HK:=Hz h.2.2.2.1
  have hnil:=fun (W:World)=>Lib.run_eql_slice_nil (P:=Tryz.prog) W 22 90 (some ad) n c 0 0 Tryz.underlying22
  clear h
  go_enter Tryz.func67,Tryz.ntmps67
  go_wp2_with (at_builtin;refine U0 rfl (.tmp 5) (.tmp 6) 22 rfl w.heap.size 90 i0 _ 24 Tryz.underlying22 hi0 hz0 hz1 hz2 rfl _ 0 [] rfl (TabF.emptied3 w _ w.heap.size (Mr _)) (some ad) n c R rfl (HT.o.below ((Mb _ _).alloc (Mr _) _)) (by omega) (by omega) (size_alloc _ _) ?_;intro A2 n2 c2 w2 hn2 hown2 hg2)
  go_ret
  have hT2:Tris w2 A2 n2 c2 R:=TabF.Tris.of_own (by simpa using hown2.o) HK.o
  refine⟨A2,n2,c2,rfl,Hz hT2.1.symm,hT2,fun h0 b o hA=>?_,?_⟩
  ·have h7:=hown2.o.lt b (by rw [hA];rfl)
   exact h7.1
  ·exact ((Mb w.heap.size w).alloc (Mr _) _).grown hg2 (size_alloc _ _) fun k hk=>(by have e:some w.heap.size=some k:=hk;injection e with e;omega)
theorem qjs (A:Option Addr) (n c:Nat) (R:List Tri) (w:World) (h:Tris w A n c R) (hn:n≤1000000):Calls Tryz.prog 68 #[.slice A n c] w (TF w R):=by
 obtain⟨i0,hi0,hz0,hz1,hz2⟩:=TabF.Vq TabF.qw0
 have hl:=h.1
 rcases A with _|ad
 ·obtain rfl:n=0:=by
   rcases Nat.eq_zero_or_pos n with h0|h0
   ·exact h0
   ·obtain⟨b,o,hA,_⟩:=h.2.2.2.2 h0
    cases hA
  obtain rfl:R=[]:=List.eq_nil_of_length_eq_zero hl
  have hnil:=fun (W:World)=>Lib.run_eql_slice_nil (P:=Tryz.prog) W 23 93 none 0 c 0 0 Tryz.underlying23
  clear h hl
  go_enter Tryz.func68,Tryz.ntmps68
  go_wp2
  go_ret
  exact⟨none,0,0,rfl,Hz rfl,Tris.nil w,fun h0=>absurd h0 (by omega),Mb _ _⟩
 ·have HT:=Hz h
  have HK:=Hz h.2.2.2.1
  have hnil:=fun (W:World)=>Lib.run_eql_slice_nil (P:=Tryz.prog) W 23 93 (some ad) n c 0 0 Tryz.underlying23
  clear h
  go_enter Tryz.func68,Tryz.ntmps68
  go_wp2_with (at_builtin;refine U0 rfl (.tmp 5) (.tmp 6) 23 rfl w.heap.size 93 i0 _ 24 Tryz.underlying23 hi0 hz0 hz1 hz2 rfl _ 0 [] rfl (TabF.emptied3 w _ w.heap.size (Mr _)) (some ad) n c R rfl (HT.o.below ((Mb _ _).alloc (Mr _) _)) (by omega) (by omega) (size_alloc _ _) ?_;intro A2 n2 c2 w2 hn2 hown2 hg2)
  go_ret
  have hT2:Tris w2 A2 n2 c2 R:=TabF.Tris.of_own (by simpa using hown2.o) HK.o
  refine⟨A2,n2,c2,rfl,Hz hT2.1.symm,hT2,fun h0 b o hA=>?_,?_⟩
  ·have h7:=hown2.o.lt b (by rw [hA];rfl)
   exact h7.1
  ·exact ((Mb w.heap.size w).alloc (Mr _) _).grown hg2 (size_alloc _ _) fun k hk=>(by have e:some w.heap.size=some k:=hk;injection e with e;omega)
theorem qjt (A:Option Addr) (n c:Nat) (R:List Tri) (w:World) (h:Tris w A n c R) (hn:n≤1000000):Calls Tryz.prog 69 #[.slice A n c] w (TF w R):=by
 obtain⟨i0,hi0,hz0,hz1,hz2⟩:=TabF.Vq TabF.qvx
 have hl:=h.1
 rcases A with _|ad
 ·obtain rfl:n=0:=by
   rcases Nat.eq_zero_or_pos n with h0|h0
   ·exact h0
   ·obtain⟨b,o,hA,_⟩:=h.2.2.2.2 h0
    cases hA
  obtain rfl:R=[]:=List.eq_nil_of_length_eq_zero hl
  have hnil:=fun (W:World)=>Lib.run_eql_slice_nil (P:=Tryz.prog) W 24 95 none 0 c 0 0 Tryz.underlying24
  clear h hl
  go_enter Tryz.func69,Tryz.ntmps69
  go_wp2
  go_ret
  exact⟨none,0,0,rfl,Hz rfl,Tris.nil w,fun h0=>absurd h0 (by omega),Mb _ _⟩
 ·have HT:=Hz h
  have HK:=Hz h.2.2.2.1
  have hnil:=fun (W:World)=>Lib.run_eql_slice_nil (P:=Tryz.prog) W 24 95 (some ad) n c 0 0 Tryz.underlying24
  clear h
  go_enter Tryz.func69,Tryz.ntmps69
  go_wp2_with (at_builtin;refine U0 rfl (.tmp 5) (.tmp 6) 24 rfl w.heap.size 95 i0 _ 24 Tryz.underlying24 hi0 hz0 hz1 hz2 rfl _ 0 [] rfl (TabF.emptied3 w _ w.heap.size (Mr _)) (some ad) n c R rfl (HT.o.below ((Mb _ _).alloc (Mr _) _)) (by omega) (by omega) (size_alloc _ _) ?_;intro A2 n2 c2 w2 hn2 hown2 hg2)
  go_ret
  have hT2:Tris w2 A2 n2 c2 R:=TabF.Tris.of_own (by simpa using hown2.o) HK.o
  refine⟨A2,n2,c2,rfl,Hz hT2.1.symm,hT2,fun h0 b o hA=>?_,?_⟩
  ·have h7:=hown2.o.lt b (by rw [hA];rfl)
   exact h7.1
  ·exact ((Mb w.heap.size w).alloc (Mr _) _).grown hg2 (size_alloc _ _) fun k hk=>(by have e:some w.heap.size=some k:=hk;injection e with e;omega)
structure Lk (w w':World) (t t':Ta):Prop where
 ok:t'.ok w'
 fr:t'.fr=t.fr
 tr:t'.tr=t.tr
 P:t'.P=t.P
 W:t'.W=t.W
 C:t'.C=t.C
 n1:t'.n1=t.n1
 n2:t'.n2=t.n2
 n3:t'.n3=t.n3
 o1:0<t'.n1→∀b o,t'.A1=some ⟨b,o,none⟩→w.heap.size≤b
 o2:0<t'.n2→∀b o,t'.A2=some ⟨b,o,none⟩→w.heap.size≤b
 o3:0<t'.n3→∀b o,t'.A3=some ⟨b,o,none⟩→w.heap.size≤b
theorem Jy:(Tryz.prog.info? 26).map (·.size)=some 5:=by kernel_rfl
theorem one_tab5 (fr tr:Int) (A1 A2 A3:Option Addr) (n1 c1 n2 c2 n3 c3:Nat):∀u ∈ [Value.int .i64 fr,.slice A1 n1 c1,.slice A2 n2 c2,.slice A3 n3 c3,.int .i64 tr],u.oneCell'=true:=by intro u hu;simp at hu;rcases hu with rfl|rfl|rfl|rfl|rfl <;> rfl
theorem keep_tris {w w':World} {A:Option Addr} {n c:Nat} {R:List Tri} {xb:Nat} (h:Tris w A n c R) (k:Keep (fun i=>i=xb) w w') (hA:0<n→∀b o,A=some ⟨b,o,none⟩→b≠xb):Tris w' A n c R:=Nl h k fun h0 b o e=>hA h0 b o e
theorem Kg (t:Ta) (w:World) (h:t.ok w) (hn:t.n1≤1000000∧t.n2≤1000000∧t.n3≤1000000):Calls Tryz.prog 30 #[t.val] w fun e w'=>∃t',e=.returned t'.val∧Lk w w' t t'∧Bw w w':=by
 obtain⟨fr,A1,n1,c1,TP,A2,n2,c2,TW,A3,n3,c3,TC,tr⟩:=t
 have HP:=Hz (fun w' (hb:Bw w w')=>qjr A1 n1 c1 TP w' (h.P.below hb) hn.1)
 have HW:=Hz (fun w' (hb:Bw w w')=>qjs A2 n2 c2 TW w' (h.W.below hb) hn.2.1)
 have HC:=Hz (fun w' (hb:Bw w w')=>qjt A3 n3 c3 TC w' (h.C.below hb) hn.2.2)
 have HN:=Hz (show TP.length=n1∧TW.length=n2∧TC.length=n3 from⟨h.P.1,h.W.1,h.C.1⟩)
 have HF:=Hz (And.intro h.f0 (And.intro h.f1 (And.intro h.t0 h.t1)))
 clear h hn
 show Calls _ _ #[.agg #[.int .i64 fr,.slice A1 n1 c1,.slice A2 n2 c2,.slice A3 n3 c3,.int .i64 tr]] w _
 go_enter Tryz.func30,Tryz.ntmps30
 go_wp2_with fail
 obtain⟨wA,hwA⟩:∃wA,wA=(w.alloc (.cells #[.int .i64 fr,.slice A1 n1 c1,.slice A2 n2 c2,.slice A3 n3 c3,.int .i64 tr] 26)).alloc (.cells #[.int .i64 0,.slice none 0 0,.slice none 0 0,.slice none 0 0,.int .i64 0] 26):=⟨_,rfl⟩
 have L0:=Hz (show Bw w wA from by rw [hwA];exact ((Mb _ _).alloc (Mr _) _).alloc (by rw [Ms];omega) _)
 have B0:=Hz (show Blk wA w.heap.size 26 [.int .i64 fr,.slice A1 n1 c1,.slice A2 n2 c2,.slice A3 n3 c3,.int .i64 tr] from by rw [hwA];exact (Blk.new w _ [.int .i64 fr,.slice A1 n1 c1,.slice A2 n2 c2,.slice A3 n3 c3,.int .i64 tr]).alloc _)
 have R0:=Hz (show Blk wA (w.heap.size+1) 26 [.int .i64 0,.slice none 0 0,.slice none 0 0,.slice none 0 0,.int .i64 0] from by
  rw [hwA]
  have:=Blk.new (w.alloc (.cells #[.int .i64 fr,.slice A1 n1 c1,.slice A2 n2 c2,.slice A3 n3 c3,.int .i64 tr] 26)) 26 [.int .i64 0,.slice none 0 0,.slice none 0 0,.slice none 0 0,.int .i64 0]
  rw [Ms] at this
  exact this)
 obtain⟨xb,hxb⟩:∃xb,xb=w.heap.size:=⟨_,rfl⟩
 have HXB:=Hz hxb
 rw [←hxb] at B0 R0
 try rw [←hwA]
 try rw [←hxb]
 clear hwA
 have L0d:=Hz L0.o.drew
 have g1:=B0.o.cell (i:=1) rfl
 have g2:=B0.o.cell (i:=2) rfl
 have g3:=B0.o.cell (i:=3) rfl
 clear hxb
 go_region_law
  (first
   | (rw [if_pos (by rfl)];go_simp;refine (HP.o _ L0d.o).mono ?_;rintro e w1 ⟨B1,m1,d1,rfl,hm1,hT1,ho1,hb1⟩;have D1:=Hz hb1;have L1:=Hz (L0d.o.trans (hb1.mono L0d.o.size));have X1:=Hz ((show Blk wA.drew xb 26 [.int .i64 fr,.slice A1 n1 c1,.slice A2 n2 c2,.slice A3 n3 c3,.int .i64 tr] from B0.o).below hb1);have h2:=X1.o.cell (i:=2) rfl;have h3:=X1.o.cell (i:=3) rfl;have T1:=Hz hT1;have O1:=Hz ho1;clear hb1 hT1 ho1)
   | (rw [if_pos (by rfl)];go_simp;refine (HW.o _ L1.o).mono ?_;rintro e w2 ⟨B2,m2,d2,rfl,hm2,hT2,ho2,hb2⟩;have D2:=Hz hb2;have L2:=Hz (L1.o.trans (hb2.mono L1.o.size));have X2:=Hz (X1.o.below hb2);have k3:=X2.o.cell (i:=3) rfl;have T2:=Hz hT2;have O2:=Hz ho2;clear hb2 hT2 ho2)
   | (rw [if_pos (by rfl)];go_simp;refine (HC.o _ L2.o).mono ?_;rintro e w3 ⟨B3,m3,d3,rfl,hm3,hT3,ho3,hb3⟩;have D3:=Hz hb3;have L3:=Hz (L2.o.trans (hb3.mono L2.o.size));have X3:=Hz (X2.o.below hb3);have q1:=X3.o.cell (i:=1) rfl;have q2:=X3.o.cell (i:=2) rfl;have q3:=X3.o.cell (i:=3) rfl;have f1:=X3.o.frozen 1;have f2:=X3.o.frozen 2;have f3:=X3.o.frozen 3;have T3:=Hz hT3;have O3:=Hz ho3;clear hb3 hT3 ho3))
 all_goals
  have hs2:=D2.o.size
  have hs1:=D1.o.size
  have hs3:=D3.o.size
  have hx0:=B0.o.lt
  obtain⟨wf,hwf⟩:∃wf,wf=((w3.setCell ⟨xb,1,none⟩ (.slice B1 m1 d1)).setCell ⟨xb,2,none⟩ (.slice B2 m2 d2)).setCell ⟨xb,3,none⟩ (.slice B3 m3 d3):=⟨_,rfl⟩
  have XF:=Hz (show Blk wf xb 26 [.int .i64 fr,.slice B1 m1 d1,.slice B2 m2 d2,.slice B3 m3 d3,.int .i64 tr] from by rw [hwf];exact ((X3.o.set 1 (.slice B1 m1 d1)).set 2 (.slice B2 m2 d2)).set 3 (.slice B3 m3 d3))
  have OF:=Hz (show Only xb w3 wf from by rw [hwf];exact (((Only.refl xb w3).trans (Only.set _ _ _ _)).trans (Only.set _ _ _ _)).trans (Only.set _ _ _ _))
  rw [←hwf]
  have L3f:=Hz (show Bw wA w3 from by
   have e1:Bw wA w1:=((Mb wA.heap.size wA).drew).trans D1.o
   have e2:=e1.trans (D2.o.mono e1.size)
   exact e2.trans (D3.o.mono e2.size))
  have RF:=Hz (show Blk wf (xb+1) 26 [.int .i64 0,.slice none 0 0,.slice none 0 0,.slice none 0 0,.int .i64 0] from OF.o.blk (R0.o.below L3f.o) (by omega))
  have LF:=Hz (show Bw w wf from OF.o.below L3.o (by rw [HXB.o];exact Mr _) L3.o.size)
  clear hwf f1 f2 f3 q1 q2 q3
  try clear h2
  try clear h3
  try clear k3
  clear g1 g2 g3
  go_wp2_with (first
   | (refine Qj rfl 26 (.tmp 1) rfl xb rfl XF.o Tryz.underlying26 rfl Jy ?_)
   | (refine Qq rfl 26 (.tmp 2) (.tmp 15) rfl (xb+1) rfl [.int .i64 fr,.slice B1 m1 d1,.slice B2 m2 d2,.slice B3 m3 d3,.int .i64 tr] rfl RF.o rfl Jy (one_tab5 _ _ _ _ _ _ _ _ _ _ _) ?_;intro w9 hB9 ho9))
  have e0:=hB9.o.cell (i:=0) rfl
  have e1:=hB9.o.cell (i:=1) rfl
  have e2:=hB9.o.cell (i:=2) rfl
  have e3:=hB9.o.cell (i:=3) rfl
  have e4:=hB9.o.cell (i:=4) rfl
  refine bodyPost_ret (v:=.agg #[.int .i64 fr,.slice B1 m1 d1,.slice B2 m2 d2,.slice B3 m3 d3,.int .i64 tr]) (by simp [results,Tryz.results30,go_sem,e0,e1,e2,e3,e4]) rfl ?_
  have hxw:=HXB.o
  have hr0:=R0.o.lt
  have hdr:wA.drew.heap.size=wA.heap.size:=rfl
  have p1:0<m1→∀b o,B1=some ⟨b,o,none⟩→wA.heap.size≤b:=fun h0 b o e=>O1.o h0 b o e
  have p2:0<m2→∀b o,B2=some ⟨b,o,none⟩→wA.heap.size≤b:=fun h0 b o e=>Ml hs1 (O2.o h0 b o e)
  have p3:0<m3→∀b o,B3=some ⟨b,o,none⟩→wA.heap.size≤b:=fun h0 b o e=>Ml hs1 (Ml hs2 (O3.o h0 b o e))
  have kf:Keep (fun i=>i=xb) w3 wf:=Keep.only OF.o rfl
  have k9:Keep (fun i=>i=xb+1) wf w9:=Keep.only ho9.o rfl
  have lw:∀b,wA.heap.size≤b→w.heap.size≤b:=fun b hb=>Ml L0.o.size hb
  refine⟨⟨fr,B1,m1,d1,TP,B2,m2,d2,TW,B3,m3,d3,TC,tr⟩,rfl,⟨⟨?_,?_,?_,HF.o.1,HF.o.2.1,HF.o.2.2.1,HF.o.2.2.2⟩,rfl,rfl,rfl,rfl,rfl,hm1.o.trans HN.o.1,hm2.o.trans HN.o.2.1,hm3.o.trans HN.o.2.2,fun h0 b o e=>lw b (p1 h0 b o e),fun h0 b o e=>lw b (p2 h0 b o e),fun h0 b o e=>lw b (p3 h0 b o e)⟩,ho9.o.below LF.o (by omega) LF.o.size⟩
  ·exact keep_tris (keep_tris ((T1.o.below D2.o).below D3.o) kf fun h0 b o e=>by have:=p1 h0 b o e;omega) k9 fun h0 b o e=>by have:=p1 h0 b o e;omega
  ·exact keep_tris (keep_tris (T2.o.below D3.o) kf fun h0 b o e=>by have:=p2 h0 b o e;omega) k9 fun h0 b o e=>by have:=p2 h0 b o e;omega
  ·exact keep_tris (keep_tris T3.o kf fun h0 b o e=>by have:=p3 h0 b o e;omega) k9 fun h0 b o e=>by have:=p3 h0 b o e;omega
end StoN
end Go.Proofs.YtpidbddllnidhaaGreatDoor
