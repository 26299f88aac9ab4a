/- Parts of the proof, each under the conditions that it names. -/
import Derived.Test.YtpidbddllnidhaaGreatDoorO17
set_option maxRecDepth 100000
set_option maxHeartbeats 12800000
namespace Go.Proofs.YtpidbddllnidhaaGreatDoor
open Go.RowKit
namespace StgN
open Kit Byt Mem DskA DskC RecM StgM
open RecA (sval scells sok)
theorem qvg:(Tryz.prog.info? 169).map (fun i=>(i.zero,i.size,i.bytes))=some (some (.agg #[.int .i64 0,.slice none 0 0]),2,32):=by kernel_rfl
theorem stc_app (Q R:List Stp):stc (Q++R)=stc Q++stc R:=by simp [stc]
theorem qjh (e:Stp):stc [e]=e.cells:=by simp [stc]
section
variable {w wP w':World} {F J:Nat→Prop} {g a:Nat} {s s':St} {t t':Slt}
theorem Sgo.from {v:Value} {e:Ending} (hb:Bw wP w) (h:Sgo F J g a w v s' t' e w'):Sgo F J g a wP v s' t' e w':=by
 obtain⟨he,F',J',h1,h2,h3,h4,h5,h6⟩:=h
 have hs:=hb.size
 refine⟨he,F',J',h1,h2,h3,(Keep.of_below hb).trans h4 fun i hi=>.inl hi,fun i hi=>?_,fun i hi=>?_⟩
 ·rcases h5 i hi with h|h
  ·exact .inl h
  ·exact .inr (by omega)
 ·rcases h6 i hi with h|h
  ·exact .inl h
  ·exact .inr (by omega)
theorem DS.below (h:DS w F J g a s t) (hb:Bw w w'):DS w' F J g a s t:=⟨h.dk.below hb,h.sm.below hb,h.dis,h.most,h.fits⟩
theorem DS.keep {G:Nat→Prop} (h:DS w F J g a s t) (k:Keep G w w') (hG:∀i,F i∨J i→¬G i):DS w' F J g a s t:=
 ⟨h.dk.keep k fun i hi=>hG i (.inl hi),h.sm.keep k fun i hi=>hG i (.inr hi),h.dis,h.most,h.fits⟩
theorem DS.lt (h:DS w F J g a s t):∀i,F i∨J i→i<w.heap.size:=fun i hi=>by
 rcases hi with hi|hi
 ·exact h.dk.lt i hi
 ·exact h.sm.lt i hi
theorem sts_of {base n c N:Nat} {A:Option Addr} {Q:List Stp} (ho:w.ownsRow base 169 2 (.slice A n c) n (stc Q)) (hn:0<n) (hF:∀i,F i∨J i→i<base) (hk:∀e ∈ Q,e.ok w F N):∃b,A=some ⟨b,0,none⟩∧Sts w F b n Q N∧¬J b:=by
 obtain⟨b,hA,h1,h2⟩:=DskB.Zz ho hn
 subst hA
 have hl:=ho.1
 rw [qvf] at hl
 refine⟨b,rfl,⟨by omega,fun j u hu=>?_,fun h=>?_,h2,hk⟩,fun h=>?_⟩
 ·have hj:j<(stc Q).length:=by
   rcases Nat.lt_or_ge j (stc Q).length with h|h
   ·exact h
   ·rw [List.getElem?_eq_none h] at hu;cases hu
  rw [ho.cellAt j (by rw [qvf] at hj;omega)]
  exact hu
 ·have:=hF b (.inl h);omega
 ·have:=hF b (.inr h);omega
theorem Kw {g:Sg} (h:g.right):g≠Sg.none:=fun e=>by rw [e] at h;have:=h.1.1;simp [Sg.none] at this
theorem tell_on {w1 w2 w3:World} {L B A3:Option Addr} {n c d n3 c3 X:Nat} {Q:List Stp} {nb:List Nat} {o:Obj} {ta:Nat} (hta:ta=t.at_) (hP:Bw wP w1) (H:DS wP F J g a s t) (HO:w1.ownsRow wP.heap.size 169 2 (.slice L n c) n (stc Q))
 (HQ:∀e ∈ Q,e.ok w1 F s.S.length∧∀q o,e.A=some ⟨q,o,none⟩→¬J q∧(Value.slice L n c).ownBlock≠some q) (HOB:w1.ownsRow X 5 1 (.slice B 64 d) 64 (u8n nb)) (hX:wP.heap.size≤X) (hXo:∀k,(Value.slice L n c).ownBlock=some k→k<X)
 (hb2:Bw w1 w2) (hg:(w2.alloc o).grownBy w3 (Value.slice L n c).ownBlock) (hown3:w3.ownsRow wP.heap.size 169 2 (.slice A3 n3 c3) n3 (stc Q++stepc ta B 64 d)) (hn3:n3=n+1) :
 DS w3 F J g a s t∧Bw wP w3∧∃b3,A3=some ⟨b3,0,none⟩∧Sts w3 F b3 n3 (Q++[⟨ta,B,d,nb⟩]) s.S.length∧¬J b3∧∀e ∈ Q++[⟨ta,B,d,nb⟩],∀q o,e.A=some ⟨q,o,none⟩→¬J q:=by
 have hk3:Keep (fun k=>(Value.slice L n c).ownBlock=some k) w1 w3:=grow_keep hb2 hg
 have hown:∀k,(Value.slice L n c).ownBlock=some k→wP.heap.size≤k:=fun k hk=>(HO.lt k hk).1
 have hL3:Bw wP w3:=hP.trans (hk3.below hown hP.size)
 have hlt:=H.lt
 have hDS:DS w3 F J g a s t:=(H.below hP).keep hk3 fun i hi hk=>by
  have h1:=hlt i hi
  have h2:=hown i hk
  omega
 have hnew:(⟨ta,B,d,nb⟩:Stp).ok w3 F s.S.length:=by
  refine⟨Rd.own (hk3.own HOB fun k hk hk2=>?_),fun q o hA hF=>?_,?_⟩
  ·have:=(HOB.lt k hk).1
   have:=hXo k hk2
   omega
  ·have h1:=(HOB.lt q (by rw [show B=some ⟨q,o,none⟩ from hA];rfl)).1
   have h2:=hlt q (.inl hF)
   omega
  ·have:=H.fits.2.2
   show ta<_
   omega
 have hold:∀e ∈ Q,e.ok w3 F s.S.length:=fun e he=>by
  obtain⟨⟨h1,h2,h3⟩,h4⟩:=HQ e he
  exact⟨hk3.rd h1 fun _ b o hA hk=>(h4 b o hA).2 hk,h2,h3⟩
 have hall:∀e ∈ Q++[⟨ta,B,d,nb⟩],e.ok w3 F s.S.length:=fun e he=>by
  rcases List.mem_append.1 he with h1|h1
  ·exact hold e h1
  ·rw [List.mem_singleton.1 h1];exact hnew
 obtain⟨b3,hA3,hS,hJ⟩:=sts_of (J:=J) (Q:=Q++[⟨ta,B,d,nb⟩]) (N:=s.S.length) (by rw [stc_app,qjh];exact hown3) (by omega) hlt hall
 refine⟨hDS,hL3,b3,hA3,hS,hJ,fun e he q o hA=>?_⟩
 rcases List.mem_append.1 he with h1|h1
 ·exact ((HQ e h1).2 q o hA).1
 ·rw [List.mem_singleton.1 h1] at hA
  intro hj
  have h2:=(HOB.lt q (by rw [show B=some ⟨q,o,none⟩ from hA];rfl)).1
  have h3:=hlt q (.inr hj)
  omega
theorem qvh {w1 w2 w3:World} {L B A3:Option Addr} {n c d n3 c3 X:Nat} {Q:List Stp} {nb:List Nat} {o:Obj} {ta:Nat} (hta:ta=t.at_) (hP:Bw wP w1) (H:DS wP F J g a s t) (HO:w1.ownsRow wP.heap.size 169 2 (.slice L n c) n (stc Q))
 (HQ:∀e ∈ Q,e.ok w1 F s.S.length∧∀q o,e.A=some ⟨q,o,none⟩→¬J q∧(Value.slice L n c).ownBlock≠some q) (HOB:w1.ownsRow X 5 1 (.slice B 64 d) 64 (u8n nb)) (hX:wP.heap.size≤X) (hXo:∀k,(Value.slice L n c).ownBlock=some k→k<X)
 (hb2:Bw w1 w2) (hg:(w2.alloc o).grownBy w3 (Value.slice L n c).ownBlock) (hown3:w3.ownsRow wP.heap.size 169 2 (.slice A3 n3 c3) n3 (stc Q++stepc ta B 64 d)) (hn3:n3=n+1) (hn:n≤1) (nx:Sg) (hnx:sok nx∧nx≠Sg.none) (R:St×Int) (hR:R=pQ s (Q.map Stp.pair++[(t.at_,nb)])) :
 ∃b3,A3=some ⟨b3,0,none⟩∧Calls Tryz.prog 131 #[.pointer (some ⟨a,0,none⟩),sval nx,.slice (some ⟨b3,0,none⟩) n3 c3] w3 (Sgo F J g a wP (.int .i64 R.2) R.1 (became t true nx R.2)):=by
 obtain⟨hDS3,hL3,b3,rfl,hST3,hJ3,hJQ3⟩:=tell_on hta hP H HO HQ HOB hX hXo hb2 hg hown3 hn3
 have h:=qjg hDS3 nx true hnx.1 ⟨fun _=>hnx.2,fun _=>rfl⟩ b3 n3 c3 _ (by omega) hST3 hJ3 hJQ3
 rw [List.map_append,show List.map Stp.pair [⟨ta,B,d,nb⟩]=[(ta,nb)] from rfl,hta,←hR] at h
 exact⟨b3,rfl,h.mono fun _ _ hg=>Sgo.from hL3 hg⟩
theorem tell_no (h:DS w F J g a s t) (nx:Sg) (hk:sok nx) (hr : ¬nx.right) (v:Value):Calls Tryz.prog 85 #[.pointer (some ⟨a,0,none⟩),sval nx,v] w (Sgo F J g a w (.int .i64 3) s t):=by
 have H:=Hz h
 have HP:=Hz (fun w'=>RecN.sput_no nx w' hk hr)
 clear h hk hr
 obtain⟨n,z,hv⟩:=nx
 show Calls _ _ #[_,.agg #[.int .i64 n,.int .i64 z,.int .i64 hv],_] w _
 have L0:=Hz (show Bw w (w.alloc (.cells #[.int .i64 n,.int .i64 z,.int .i64 hv] 103)) from (Mb _ _).alloc (Mr _) _)
 go_enter Tryz.func85,Tryz.ntmps85
 go_wp2_with (go_at_call 97;refine (HP.o _).mono ?_;rintro e w1 ⟨rfl,hb1⟩;have L1:=Hz (L0.o.trans (hb1.mono L0.o.size));clear hb1)
 go_ret
 exact Sgo.disk H.o (H.o.dk.below L1.o) (Keep.of_below L1.o) fun i hi=>.inl hi
theorem qqq (hb:Bw wP w) (h:DS wP F J g a s t) (nx:Sg) (hk:sok nx) (hr:nx.right) (L:Option Addr) (n c:Nat) (Q:List Stp) (hn:n≤1) (hown:w.ownsRow wP.heap.size 169 2 (.slice L n c) n (stc Q)) (hQ:∀e ∈ Q,e.ok w F s.S.length∧∀q o,e.A=some ⟨q,o,none⟩→¬J q∧(Value.slice L n c).ownBlock≠some q) :
 Calls Tryz.prog 85 #[.pointer (some ⟨a,0,none⟩),sval nx,.slice L n c] w (Sgo F J g a wP (.int .i64 (pQ s (Q.map Stp.pair++[(t.at_,shut nx.bytes)])).2) (pQ s (Q.map Stp.pair++[(t.at_,shut nx.bytes)])).1 (became t true nx (pQ s (Q.map Stp.pair++[(t.at_,shut nx.bytes)])).2)):=by
 obtain⟨i0,hi0,hz0,hz1,hz2⟩:=info_parts qvg
 have HP:=Hz (fun w'=>RecN.qwk nx w' hk hr)
 have HX0:=Hz (show Blk (w.alloc (.cells #[.int .i64 nx.s,.int .i64 nx.z,.int .i64 nx.h] 103)) w.heap.size 103 (scells nx) from Blk.new w _ _)
 have L0:=Hz (show Bw w (w.alloc (.cells #[.int .i64 nx.s,.int .i64 nx.z,.int .i64 nx.h] 103)) from (Mb _ _).alloc (Mr _) _)
 have hbl:(shut nx.bytes).length=64:=J5 (by rw [Sg.bytes_len];omega)
 have HNK:=Hz (show sok nx∧nx≠Sg.none from⟨hk,Kw hr⟩)
 have HB:=Hz hb
 have H:=Hz h
 have HO:=Hz hown
 have HQ:=Hz hQ
 have HBL:=Hz hbl
 clear hb h hown hQ hbl hk hr
 obtain⟨nb,hnb⟩:∃nb,nb=shut nx.bytes:=⟨_,rfl⟩
 rw [←hnb] at HP HBL ⊢
 clear hnb
 obtain⟨R,hR⟩:∃R,R=pQ s (Q.map Stp.pair++[(t.at_,nb)]):=⟨_,rfl⟩
 rw [←hR]
 have HRR:=Hz hR
 clear hR
 obtain⟨ta,hta⟩:∃ta,ta=t.at_:=⟨_,rfl⟩
 have HTA:=Hz hta
 clear hta
 go_enter Tryz.func85,Tryz.ntmps85
 go_wp2_with (go_at_call 97;refine (HP.o _).mono ?_;rintro e w1 ⟨B,m,d,rfl,hownB,hb1⟩;obtain rfl:m=64:=by { have h1:=hownB.1;rw [Qv,HBL.o] at h1;omega };have L1:=Hz (L0.o.trans (hb1.mono L0.o.size));have HX1:=Hz (HX0.o.below hb1);have HOB:=Hz hownB;have hs0:=L0.o.size;have hs1:=hb1.size;clear hownB hb1)
 have LP1:=Hz (HB.o.trans (L1.o.mono HB.o.size))
 have hbx:=HX1.o.lt
 have hbx':w.heap.size<w1.drew.heap.size:=hbx
 have hsz1:wP.heap.size≤w.heap.size:=HB.o.size
 have x0:w1.drew.cell? ⟨w.heap.size,0,none⟩=some (.int .i64 nx.s):=HX1.o.cell rfl
 have x1:w1.drew.cell? ⟨w.heap.size,1,none⟩=some (.int .i64 nx.z):=HX1.o.cell rfl
 have x2:w1.drew.cell? ⟨w.heap.size,2,none⟩=some (.int .i64 nx.h):=HX1.o.cell rfl
 have HSM1:=Hz (show Sm w1.drew J a g t from (H.o.sm.below LP1.o).keep (Keep.drew (Keep.refl (fun _=>False) w1)) fun _ _ h=>h)
 have HAT:=Hz (show Calls Tryz.prog 112 #[.pointer (some ⟨a,0,none⟩)] w1.drew fun e w'=>e=.returned (.int .i64 (ta:Nat))∧Below w1.drew.heap.size w1.drew w' from HTA.o▸Xz HSM1.o H.o.fits.1 H.o.fits.2.1)
 have HO1:=Hz ((Keep.of_below (F:=fun _=>False) L1.o).own HO.o fun _ _ h=>h)
 have HQ1:=Hz (show ∀e ∈ Q,e.ok w1 F s.S.length∧∀q o,e.A=some ⟨q,o,none⟩→¬J q∧(Value.slice L n c).ownBlock≠some q from fun e he=>⟨(HQ.o e he).1.step (Keep.of_below L1.o) fun i hi=>.inl hi,(HQ.o e he).2⟩)
 have HXX:=Hz (show wP.heap.size≤(w.alloc (.cells #[.int .i64 nx.s,.int .i64 nx.z,.int .i64 nx.h] 103)).heap.size∧∀k,(Value.slice L n c).ownBlock=some k→k<(w.alloc (.cells #[.int .i64 nx.s,.int .i64 nx.z,.int .i64 nx.h] 103)).heap.size from⟨by rw [Ms];omega,fun k hk=>by have:=(HO.o.lt k hk).2;rw [Ms];omega⟩)
 have HXK:=Hz (show ∀(w2 w3:World) (o:Obj),Bw w1 w2→(w2.alloc o).grownBy w3 (Value.slice L n c).ownBlock→∀i,w3.cell? ⟨w.heap.size,i,none⟩=w1.drew.cell? ⟨w.heap.size,i,none⟩ from fun w2 w3 o h1 h2 i=>World.cell?_of_block ((grow_keep h1 h2).block _ hbx fun e=>by have:=(HO.o.lt w.heap.size e).2;omega))
 have X0:=Hz x0
 have X1:=Hz x1
 have X2:=Hz x2
 clear hbx
 go_region_law
  (first
   | (rw [if_pos (by rfl)];have hq:=HBC;clear hq;go_simp;refine HBC.o.mono ?_;rintro e w4 ⟨rfl,hgo⟩;have HGO:=Hz hgo;clear hgo;go_wp2_with fail)
   | (rw [if_pos (by rfl)];have hq:=HO2;clear hq;refine Q9 (.tmp 19) (.tmp 24) 201 rfl wP.heap.size 169 i0 _ 2 32 Tryz.underlying201 hi0 hz0 hz1 hz2 rfl (by omega) (.slice L n c) n (stc Q) rfl (HO2.o.alloc _) ⟨w2.heap.size,0,none⟩ 1 1 (stepc ta B 64 d) rfl rfl (new_cells w2 (stepc ta B 64 d) _) (stepc_one _ _ _ _) (by unfold maxLen;omega) (by omega) (by have:=L2.o.size;rw [Ms];omega) ?_;intro A3 n3 c3 w3 hn3 hown3 hg3 hat3;obtain⟨b3,rfl,hBC⟩:=qvh HTA.o LP1.o H.o HO1.o HQ1.o HOB.o HXX.o.1 HXX.o.2 L12.o hg3 hown3.o hn3.o hn nx HNK.o R HRR.o;have HBC:=Hz hBC;have v0:=(HXK.o w2 w3 _ L12.o hg3 0).trans X0.o;have v1:=(HXK.o w2 w3 _ L12.o hg3 1).trans X1.o;have v2:=(HXK.o w2 w3 _ L12.o hg3 2).trans X2.o;clear hBC hn3 hown3 hg3 hat3;go_wp2_with fail)
   | (rw [if_pos (by rfl)];go_simp;refine HAT.o.mono ?_;rintro e w2 ⟨rfl,hb2⟩;have L12:=Hz (show Bw w1 w2 from ((Mb w1.heap.size w1).drew).trans hb2);have L2:=Hz (show Bw wP w2 from LP1.o.trans (L12.o.mono LP1.o.size));have HO2:=Hz ((Keep.of_below (F:=fun _=>False) L12.o).own HO1.o fun _ _ h=>h);have hbx2:w.heap.size<w2.heap.size:=Mw hbx' hb2.size;have y0:=(hb2.cell (p:=⟨w.heap.size,0,none⟩) hbx').trans x0;have y1:=(hb2.cell (p:=⟨w.heap.size,1,none⟩) hbx').trans x1;have y2:=(hb2.cell (p:=⟨w.heap.size,2,none⟩) hbx').trans x2;have z0:=(((Mb w2.heap.size w2).alloc (Mr _) (.cells #[.int .i64 (ta:Nat),.slice B 64 d] 169)).cell (p:=⟨w.heap.size,0,none⟩) hbx2).trans y0;have z1:=(((Mb w2.heap.size w2).alloc (Mr _) (.cells #[.int .i64 (ta:Nat),.slice B 64 d] 169)).cell (p:=⟨w.heap.size,1,none⟩) hbx2).trans y1;have z2:=(((Mb w2.heap.size w2).alloc (Mr _) (.cells #[.int .i64 (ta:Nat),.slice B 64 d] 169)).cell (p:=⟨w.heap.size,2,none⟩) hbx2).trans y2;clear hb2;go_wp2_with fail))
 all_goals
  go_wp2
  go_ret
  exact⟨rfl,HGO.o⟩
end
end StgN
namespace StgN
open Mem DskA RecM StgM
open RecA (sval scells sok n64)
open DskB (zs zs_len)
theorem qqr (s:St) (i:Nat) (bs:List Nat):(put1 s i bs).2=0∨(put1 s i bs).2=8:=by
 unfold put1
 split
 ·exact .inr rfl
 ·split
  ·exact .inr rfl
  ·exact .inl rfl
theorem pQ_one (s:St) (i:Nat) (bs:List Nat):pQ s [(i,bs)]=put1 s i bs:=by
 show (if (put1 s i bs).2=0 then ((put1 s i bs).1,0) else ((put1 s i bs).1,8))=_
 rcases qqr s i bs with h|h
 ·rw [if_pos h];exact Prod.ext rfl h.symm
 ·rw [if_neg (by omega)];exact Prod.ext rfl h.symm
theorem pB_eq {s:St} {t:Slt} {n z:Int} (h:(fresh n z).right):pB s t n z=((put1 s t.at_ (shut (fresh n z).bytes)).1,became t true (fresh n z) (put1 s t.at_ (shut (fresh n z).bytes)).2,(put1 s t.at_ (shut (fresh n z).bytes)).2):=by
 unfold pB became
 rw [if_pos h]
 rcases qqr s t.at_ (shut (fresh n z).bytes) with h|h
 ·rw [if_pos h,if_pos h,h]
 ·rw [if_neg (by omega),if_neg (by omega),h]
theorem n64_0:n64 0:=⟨by omega,by omega⟩
theorem begin_any (F J:Nat→Prop) (g a:Nat) (s:St) (t:Slt) (n z:Int) (w:World) (h:DS w F J g a s t) (hn:n64 n) (hz:n64 z) :
 Calls Tryz.prog 50 #[.pointer (some ⟨a,0,none⟩),.int .i64 n,.int .i64 z] w (Sgo F J g a w (.int .i64 (pB s t n z).2.2) (pB s t n z).1 (pB s t n z).2.1):=by
 have hT:Calls Tryz.prog 85 #[.pointer (some ⟨a,0,none⟩),.agg #[.int .i64 n,.int .i64 z,.int .i64 0],.slice none 0 0] w (Sgo F J g a w (.int .i64 (pB s t n z).2.2) (pB s t n z).1 (pB s t n z).2.1):=by
  by_cases hr:(fresh n z).right
  ·have hT:=qqq (Mb _ w) h (fresh n z) ⟨hn,hz,n64_0⟩ hr none 0 0 [] (by omega) (World.ownsRow_nil _ _ _ _) (fun e he=>by cases he)
   rw [show List.map Stp.pair []++[(t.at_,shut (fresh n z).bytes)]=[(t.at_,shut (fresh n z).bytes)] from rfl,pQ_one] at hT
   rw [pB_eq hr]
   exact hT
  ·have hT:=tell_no h (fresh n z) ⟨hn,hz,n64_0⟩ hr (.slice none 0 0)
   have e:pB s t n z=(s,t,3):=by unfold pB;rw [if_neg hr]
   rw [e]
   exact hT
 have HT:=Hz hT
 clear hT h hn hz
 obtain⟨R,hR⟩:∃R,R=pB s t n z:=⟨_,rfl⟩
 rw [←hR] at HT ⊢
 clear hR
 go_enter Tryz.func50,Tryz.ntmps50
 go_wp2_with (go_at_call 85;refine HT.o.mono ?_;rintro e w1 ⟨rfl,hgo⟩;have HGO:=Hz hgo;clear hgo)
 go_ret
 exact⟨rfl,HGO.o⟩
theorem Yj (J:Nat→Prop) (g a:Nat) (t:Slt) (w:World) (h:Sm w J a g t) (_:t.has=false→t.g=Sg.none) :
 Calls Tryz.prog 76 #[.pointer (some ⟨a,0,none⟩)] w fun e w'=>e=.returned (.tuple #[sval t.g,.bool t.has])∧Bw w w':=by
 have L0:=Hz (show Bw w (w.alloc (.cells #[.int .i64 0,.int .i64 0,.int .i64 0] 103)) from (Mb _ _).alloc (Mr _) _)
 have HB0:=Hz (show Blk (w.alloc (.cells #[.int .i64 0,.int .i64 0,.int .i64 0] 103)) w.heap.size 103 (scells Sg.none) from Blk.new w _ _)
 have HSM:=Hz (h.below L0.o)
 have HST:=Hz (fun w' (k:Sm w' J a g t)=>staged_any k)
 obtain⟨_,_,_,c3,c4,c5⟩:=HSM.o.cells
 have hlt:=HSM.o.blk.lt
 clear h
 obtain⟨w0,hw0⟩:∃w0,w0=w.alloc (.cells #[.int .i64 0,.int .i64 0,.int .i64 0] 103):=⟨_,rfl⟩
 rw [←hw0] at L0 HB0 HSM c3 c4 c5 hlt
 have HW0:=Hz hw0
 clear hw0
 have HSD:=Hz (show Sm w0.drew J a g t from HSM.o.below ((Mb w0.heap.size w0).drew))
 go_enter Tryz.func76,Tryz.ntmps76
 go_wp2_with fail
 rw [←HW0.o]
 go_still_tail 6,(by kernel_rfl)
 refine wpStill_step (fun K hK=>?_)
 go_simp
 refine⟨_,(HST.o _ HSD.o).mono (fun e w' h=>⟨h.1,h.2.symm⟩),hK _ ?_⟩
 clear hK K
 refine wpStill_nil ?_
 change wpList _ _ _ _ _ w0.drew
 have HBD:=Hz (show Blk w0.drew w.heap.size 103 (scells Sg.none) from HB0.o)
 have LD:=Hz (L0.o.trans ((Mb w0.heap.size w0).drew.mono L0.o.size))
 go_wp2_with (refine Qq rfl 103 (.tmp 2) (.tmp 10) rfl w.heap.size rfl (scells t.g) rfl HBD.o rfl Xv (by intro u hu;simp [scells] at hu;rcases hu with rfl|rfl|rfl <;> rfl) ?_;intro w2 hB2 ho2)
 have e0:=hB2.o.cell (i:=0) rfl
 have e1:=hB2.o.cell (i:=1) rfl
 have e2:=hB2.o.cell (i:=2) rfl
 refine bodyPost_ret (v:=.tuple #[sval t.g,.bool t.has]) (by simp [results,Tryz.results76,go_sem,e0,e1,e2]) rfl ?_
 exact⟨rfl,ho2.o.below LD.o (Mr _) LD.o.size⟩
end StgN
namespace StgN
open Kit Byt Mem DskA DskD RecM StgM PlaM
open RecA (sval scells sok)
def rm (s:St) (p k:Int):Bool:=decide (0≤p∧p≤3∧0≤k∧k≤1∧10*p+2+4*k+4≤s.S.length)
theorem rD_2 (p k:Int):(rD p k 2=10*p+2+4*k+3∧0≤p∧p≤3∧0≤k∧k≤1)∨(rD p k 2 = -1∧¬(0≤p∧p≤3∧0≤k∧k≤1)):=by
 unfold rD rS fnd
 repeat (first|omega|split)
theorem room_any (F:Nat→Prop) (g:Nat) (s:St) (p k:Int) (w:World) (hD:Dk w F g s) (hp:PlaM.n64 p) (hk:PlaM.n64 k) :
 Calls Tryz.prog 111 #[.pointer (some ⟨g,0,none⟩),.int .i64 p,.int .i64 k] w fun e w'=>e=.returned (.bool (rm s p k))∧Bw w w':=by
 have H1:=Hz (PlaN.Yz 9 w ⟨by omega,by omega⟩)
 rw [show PlaN.bi 9=2 from rfl,show PlaN.bf 9=16 from rfl,show PlaN.bb 9=true from rfl] at H1
 have H2:=Hz (fun w'=>PlaN.qqp p k 2 w' hp hk ⟨by omega,by omega⟩)
 have H3:=Hz (fun w' (h:Bw w w')=>N0 F g s w' (hD.below h))
 have hm:=hD.ok.most
 rcases rD_2 p k with⟨e,hr⟩|⟨e,hr⟩
 ·have hq:rm s p k=decide (10*p+2+4*k+3<(s.S.length:Int)):=by
   unfold rm
   rw [Bool.eq_iff_iff,decide_eq_true_iff,decide_eq_true_iff]
   omega
  rw [e,PlaN.Ny (by omega),PlaN.Nu (by omega)] at H2
  rw [hq]
  obtain⟨q,hqq⟩:∃q,q=10*p+2+4*k+3:=⟨_,rfl⟩
  rw [←hqq] at H2 ⊢
  clear e hr hq hqq hD hp hk
  go_enter Tryz.func111,Tryz.ntmps111
  go_wp2_with (first
   | (go_at_call 88;refine H1.o.mono ?_;rintro e w1 ⟨rfl,hb1⟩;have L1:=Hz hb1;clear hb1)
   | (go_at_call 133;refine (H2.o _).mono ?_;rintro e w2 ⟨rfl,hb2⟩;have L2:=Hz (L1.o.trans (hb2.mono L1.o.size));clear hb2)
   | (go_at_call 10;refine (H3.o _ L2.o).mono ?_;rintro e w3 ⟨rfl,rfl⟩))
  go_ret
  exact⟨rfl,L2.o⟩
 ·have hq:rm s p k=false:=by
   unfold rm
   rw [decide_eq_false_iff_not]
   omega
  rw [e,PlaN.tv_neg (by omega),PlaN.tb_neg (by omega)] at H2
  rw [hq]
  clear e hr hq hD hp hk
  go_enter Tryz.func111,Tryz.ntmps111
  go_wp2_with (first
   | (go_at_call 88;refine H1.o.mono ?_;rintro e w1 ⟨rfl,hb1⟩;have L1:=Hz hb1;clear hb1)
   | (go_at_call 133;refine (H2.o _).mono ?_;rintro e w2 ⟨rfl,hb2⟩;have L2:=Hz (L1.o.trans (hb2.mono L1.o.size));clear hb2))
  go_ret
  exact⟨rfl,L2.o⟩
theorem getS_right {xs:List Nat} (h:(getS xs).2=0):(getS xs).1.right:=by
 unfold getS at h ⊢
 split
 ·rename_i h1;rw [if_pos h1] at h;exact absurd h h1
 ·rename_i h1
  rw [if_neg h1] at h
  split
  ·rename_i h2;exact h2
  ·rename_i h2;rw [if_neg h2] at h;exact absurd h (by show ¬(3:Int)=0;omega)
theorem right_ok {g:Sg} (h:g.right):sok g:=by
 have h1:=h.1
 have h2:=h.2.1
 have h3:=h.2.2
 have hp:(2:Int) ^ blocks g.z≤1024:=Zn h2.2
 refine⟨⟨by omega,by omega⟩,⟨by omega,by omega⟩,⟨by omega,by omega⟩⟩
theorem pO_is (s:St) (p k:Nat):(pO s p k).has=true↔(pO s p k).g≠Sg.none:=by
 show decide ((getS (now s (10*p+2+4*k))).2=0)=true↔(getS (now s (10*p+2+4*k))).1≠Sg.none
 rw [decide_eq_true_iff]
 constructor
 ·intro h;exact Kw (getS_right h)
 ·intro h
  by_cases e:(getS (now s (10*p+2+4*k))).2=0
  ·exact e
  ·exact absurd (StgP.Wt e) h
theorem pO_ok (s:St) (p k:Nat):sok (pO s p k).g:=by
 show sok (getS (now s (10*p+2+4*k))).1
 by_cases e:(getS (now s (10*p+2+4*k))).2=0
 ·exact right_ok (getS_right e)
 ·rw [StgP.Wt e];exact⟨n64_0,n64_0,n64_0⟩
theorem Uw (F:Nat→Prop) (g:Nat) (s:St) (p k:Nat) (w:World) (hD:Dk w F g s) (hp:p≤3) (hk:k≤1) (hf:10*p+2+4*k+4≤s.S.length) (hu:s.down=false) (hL:s.L.length≤1000000) (hY:Put2.Byts s) :
 Calls Tryz.prog 64 #[.pointer (some ⟨g,0,none⟩),.int .i64 (p:Nat),.int .i64 (k:Nat)] w fun e w'=>∃a J,e=.returned (.tuple #[.pointer (some ⟨a,0,none⟩),.int .i64 0])∧Sm w' J a g (pO s p k)∧(∀i,J i→w.heap.size≤i)∧Bw w w':=by
 have H1:=Hz (room_any F g s p k w hD (n64_nat (by omega)) (n64_nat (by omega)))
 have e:rm s p k=true:=by unfold rm;exact decide_eq_true_iff.2 (by omega)
 rw [e] at H1
 obtain⟨q,hq⟩:∃q,q=10*p+2+4*k:=⟨_,rfl⟩
 have HAT:=Hz (fun (w':World) (a:Nat) (h:Sm w' (fun i=>i=a) a g ⟨p,k,false,Sg.none⟩)=>(show Calls Tryz.prog 112 #[.pointer (some ⟨a,0,none⟩)] w' fun e w''=>e=.returned (.int .i64 (q:Nat))∧Bw w' w'' from by rw [hq];exact Xz h hp hk))
 have HRD:=Hz (fun w' (h:Bw w w')=>read_ok F g s q w' (hD.below h) (by omega) hu (by omega))
 have HO:=Hz (show pO s p k=⟨p,k,decide ((getS (now s q)).2=0),(getS (now s q)).1⟩ from by rw [hq];rfl)
 have HI:=Hz (And.intro (pO_is s p k) (pO_ok s p k))
 have HBY:=Hz (Put2.Vt hY q)
 obtain⟨xs,hxs⟩:∃xs,xs=now s q:=⟨_,rfl⟩
 rw [←hxs] at HRD HO HBY
 obtain⟨t',ht'⟩:∃t',t'=pO s p k:=⟨_,rfl⟩
 rw [←ht'] at HO HI ⊢
 have HG:=Hz (fun (w':World) (A:Option Addr) (h:Rd w' A 64 64 (u8n xs))=>RecN.qwl A 64 64 xs w' h HBY.o)
 obtain⟨gx,hgx⟩:∃gx,gx=getS xs:=⟨_,rfl⟩
 rw [←hgx] at HG HO
 clear e hq hxs ht' hgx hD hp hk hf hu hL hY
 go_enter Tryz.func64,Tryz.ntmps64
 go_wp2_with (go_at_call 111;refine H1.o.mono ?_;rintro e w1 ⟨rfl,hb1⟩;have L1:=Hz hb1;clear hb1)
 have hB2:=Blk.new w1 165 (slc g ⟨p,k,false,Sg.none⟩)
 have HS2:=Hz (show Sm (w1.alloc (.cells #[.pointer (some ⟨g,0,none⟩),.int .i64 (p:Nat),.int .i64 (k:Nat),.int .i64 0,.int .i64 0,.int .i64 0] 165)) (fun i=>i=w1.heap.size) w1.heap.size g ⟨p,k,false,Sg.none⟩ from⟨hB2,fun _=>Iff.rfl,⟨fun h=>(by cases h),fun h=>absurd rfl h⟩,⟨n64_0,n64_0,n64_0⟩⟩)
 have L2:=Hz (show Bw w (w1.alloc (.cells #[.pointer (some ⟨g,0,none⟩),.int .i64 (p:Nat),.int .i64 (k:Nat),.int .i64 0,.int .i64 0,.int .i64 0] 165)) from L1.o.alloc L1.o.size _)
 obtain⟨w2,hw2⟩:∃w2,w2=w1.alloc (.cells #[.pointer (some ⟨g,0,none⟩),.int .i64 (p:Nat),.int .i64 (k:Nat),.int .i64 0,.int .i64 0,.int .i64 0] 165):=⟨_,rfl⟩
 rw [←hw2] at HS2 L2 ⊢
 obtain⟨a,ha⟩:∃a,a=w1.heap.size:=⟨_,rfl⟩
 rw [←ha] at HS2 ⊢
 have HA:=Hz (show w.heap.size≤a from ha▸L1.o.size)
 clear hB2 hw2 ha
 refine (HAT.o w2 a HS2.o).mono ?_
 rintro e w3 ⟨rfl,hb3⟩
 have L3:=Hz (L2.o.trans (hb3.mono L2.o.size))
 have HS3:=Hz (HS2.o.below hb3)
 clear hb3 L2 HS2 HAT
 go_wp2_with fail
 refine (HRD.o w3 L3.o).mono ?_
 rintro e w4 ⟨A,rfl,hown,hb4⟩
 have L4:=Hz (L3.o.trans (hb4.mono L3.o.size))
 have HS4:=Hz (HS3.o.below hb4)
 have HR4:=Hz (Rd.own hown)
 clear hb4 hown L3 HS3
 go_wp2_with fail
 refine (HG.o w4 A HR4.o).mono ?_
 rintro e w5 ⟨rfl,hb5⟩
 have L5:=Hz (L4.o.trans (hb5.mono L4.o.size))
 have HS5:=Hz (HS4.o.below hb5)
 clear hb5 L4 HS4
 go_wp2_with (refine Qk rfl 103 (.tmp 42) (.tmp 39) rfl a 3 rfl (scells gx.1) rfl HS5.o.blk (by simp [slc,scells]) Xv (by intro u hu;simp [scells] at hu;rcases hu with rfl|rfl|rfl <;> rfl) ?_;intro w6 hB6 ho6)
 go_ret2
 refine⟨a,fun i=>i=a,rfl,⟨?_,fun _=>Iff.rfl,HI.o.1,HI.o.2⟩,fun i hi=>by rw [show i=a from hi];exact HA.o,ho6.o.below L5.o HA.o L5.o.size⟩
 have h6:=hB6.o
 rw [show splice (slc g ⟨p,k,false,Sg.none⟩) 3 (scells gx.1)=slc g t' from by rw [HO.o];rfl] at h6
 exact h6
end StgN
namespace StgN
open Byt Mem DskA DskE RecM StgM
open RecA (sval scells sok n64)
open BitM (hb pw)
open BitB (wv)
theorem more_right {g:Sg} {k:Nat} (hr:g.right) (hk:k<blocks g.z) (h0:hb g.h k=false):(more g k).right:=by
 have h10:=Jg hr.2.1.2
 refine⟨hr.1,hr.2.1,?_⟩
 show 0≤wv g.h k∧wv g.h k<2 ^ blocks g.z
 rw [BitC.wv_no (by omega) h0]
 have hp:=BitB.V3 k
 exact⟨by have:=hr.2.2.1;omega,BitC.qza (m:=blocks g.z) hr.2.2.1 hr.2.2.2 (by omega) (by omega) h0⟩
theorem pQ_two (s:St) (i j:Nat) (bs cs:List Nat):pQ s [(i,bs),(j,cs)]=if (put1 s i bs).2=0 then put1 (put1 s i bs).1 j cs else ((put1 s i bs).1,8):=by
 show (if (put1 s i bs).2=0 then pQ (put1 s i bs).1 [(j,cs)] else ((put1 s i bs).1,8))=_
 rw [pQ_one]
theorem qwp {t:Slt} (h:t.has=true) (g:Sg):({ t with has:=true,g:=g }:Slt) = { t with g:=g }:=by
 cases t
 simp only at h
 subst h
 rfl
theorem pP_eq {s:St} {t:Slt} {n no:Int} {d:List Nat} (h1:t.has=true) (h2:n=t.g.s) (h3:0≤no∧no<blocks t.g.z) (h4:d.length=16) (h5:hb t.g.h no=false) :
 pP s t n no d=((pQ s [(t.dat (no.toNat/4),sect s t no.toNat d),(t.at_,shut (more t.g no).bytes)]).1,became t true (more t.g no) (pQ s [(t.dat (no.toNat/4),sect s t no.toNat d),(t.at_,shut (more t.g no).bytes)]).2,(pQ s [(t.dat (no.toNat/4),sect s t no.toNat d),(t.at_,shut (more t.g no).bytes)]).2):=by
 unfold pP became
 rw [if_neg (by rw [h1];simp),if_neg (fun e=>e h2),if_neg (by omega),if_neg (by omega),if_neg (by rw [h5];simp),pQ_two]
 rcases qqr s (t.dat (no.toNat/4)) (sect s t no.toNat d) with e|e
 ·rw [if_neg (fun h=>h e),if_pos e]
  rcases qqr (put1 s (t.dat (no.toNat/4)) (sect s t no.toNat d)).1 t.at_ (shut (more t.g no).bytes) with e2|e2
  ·rw [if_neg (fun h=>h e2),if_pos e2,e2,qwp h1]
  ·rw [if_pos (by omega),if_neg (by omega),e2]
 ·rw [if_pos (by omega),if_neg (by omega)]
  show _=((put1 s (t.dat (no.toNat/4)) (sect s t no.toNat d)).1,(if (8:Int)=0 then _ else t),8)
  rw [if_neg (by omega)]
theorem pP_down {s:St} {t:Slt} {n no:Int} {d:List Nat} (h1:t.has=true) (h2:n=t.g.s) (h3:0≤no∧no<blocks t.g.z) (h4:d.length=16) (h5:hb t.g.h no=false) (hd:s.down=true):pP s t n no d=(s,t,8):=by
 unfold pP
 rw [if_neg (by rw [h1];simp),if_neg (fun e=>e h2),if_neg (by omega),if_neg (by omega),if_neg (by rw [h5];simp),Tx hd,if_pos (show (s,(8:Int)).2≠0 from by show (8:Int)≠0;omega)]
theorem Hx {c d:List Nat} {o:Nat} (h:d.length=16):splice (u8n c) o ((u8n d).take 16)=u8n (into c o d):=by
 rw [Mt (by rw [Qv];omega),Yy]
 unfold splice into
 rw [h]
theorem blk_of_own {w:World} {base b n:Nat} {e:TypeId} {xs:List Value} (h:w.ownsRow base e 1 (.slice (some ⟨b,0,none⟩) n n) n xs):Blk w b e xs∧base≤b:=by
 rcases h.2 with⟨hv,_⟩|⟨g,cap,cur,hv,hb,hg,_,_,hc,ht⟩
 ·cases hv
 ·injection hv with h1 h2 h3
  injection h1 with h1
  injection h1 with h1
  subst h1 h3
  rw [Mt (by rw [Array.length_toList];omega)] at ht
  refine⟨?_,hb⟩
  show w.heap[b]?=some (.cells xs.toArray e (0,0))
  rw [←ht]
  simpa using hg
section
variable {F J:Nat→Prop} {g a:Nat} {s:St} {t:Slt} {n no:Int} {D:Option Addr} {m d:Nat} {xs:List Nat} {w:World}
theorem put_early (h:DS w F J g a s t) (hno:n64 no) (hm:xs.length=m)
 (hc:t.has=false∨(t.has=true∧n≠t.g.s)∨(t.has=true∧n=t.g.s∧(no<0∨(blocks t.g.z:Int)≤no))∨(t.has=true∧n=t.g.s∧¬(no<0∨(blocks t.g.z:Int)≤no)∧m≠16)∨(t.has=true∧n=t.g.s∧¬(no<0∨(blocks t.g.z:Int)≤no)∧m=16∧hb t.g.h no=true)) :
 Calls Tryz.prog 51 #[.pointer (some ⟨a,0,none⟩),.int .i64 n,.int .i64 no,.slice D m d] w fun e w'=>e=.returned (.int .i64 (pP s t n no xs).2.2)∧pP s t n no xs=(s,t,(pP s t n no xs).2.2)∧w=w':=by
 obtain⟨_,_,_,c3,c4,c5⟩:=h.sm.cells
 have HS:=Hz (staged_any h.sm)
 have HB:=Hz (fun w'=>RecG.blocks_any t.g.z w' h.sm.ok.z)
 have HH:=Hz (fun w'=>BitO.has_any t.g.h no w')
 obtain⟨gs,hgs⟩:∃gs,gs=t.g.s:=⟨_,rfl⟩
 obtain⟨gz,hgz⟩:∃gz,gz=t.g.z:=⟨_,rfl⟩
 obtain⟨gh,hgh⟩:∃gh,gh=t.g.h:=⟨_,rfl⟩
 obtain⟨B,hB⟩:∃B,B=blocks t.g.z:=⟨_,rfl⟩
 rw [←hB] at HB hc
 rw [←hgz] at HB c4
 rw [←hgs] at c3 hc
 rw [←hgh] at c5 HH hc
 have HN:=Hz (show pP s t n no xs=if t.has=false then (s,t,16) else if n≠gs then (s,t,17) else if no<0∨(B:Int)≤no then (s,t,3) else if m≠16 then (s,t,14) else if hb gh no=true then (s,t,0) else pP s t n no xs from by
  subst hgs hgh hB hm
  by_cases e1:t.has=false
  ·rw [if_pos e1];unfold pP;rw [if_pos e1]
  rw [if_neg e1]
  by_cases e2:n≠t.g.s
  ·rw [if_pos e2];unfold pP;rw [if_neg e1,if_pos e2]
  rw [if_neg e2]
  by_cases e3:no<0∨(blocks t.g.z:Int)≤no
  ·rw [if_pos e3];unfold pP;rw [if_neg e1,if_neg e2,if_pos e3]
  rw [if_neg e3]
  by_cases e4:xs.length≠16
  ·rw [if_pos e4];unfold pP;rw [if_neg e1,if_neg e2,if_neg e3,if_pos e4]
  rw [if_neg e4]
  by_cases e5:hb t.g.h no=true
  ·rw [if_pos e5];unfold pP;rw [if_neg e1,if_neg e2,if_neg e3,if_neg e4,if_pos e5]
  ·rw [if_neg e5])
 have hB0:(0:Int)≤(B:Int):=by omega
 clear h hm hgs hgz hgh hB
 have n0:=hno.1
 have n1:=hno.2
 rcases hc with h1|⟨h1,h2⟩|⟨h1,h2,h3⟩|⟨h1,h2,h3,h4⟩|⟨h1,h2,h3,h4,h5⟩
 ·have HP:=Hz (show pP s t n no xs=(s,t,16) from by rw [HN.o,if_pos h1])
  rw [h1] at HS
  clear h1 HN
  rw [HP.o]
  go_enter Tryz.func51,Tryz.ntmps51
  go_wp2_with (go_at_call 86;refine HS.o.mono ?_;rintro e w1 ⟨rfl,rfl⟩)
  go_ret
  exact⟨rfl,trivial,rfl⟩
 ·have HP:=Hz (show pP s t n no xs=(s,t,17) from by rw [HN.o,if_neg (by rw [h1];simp),if_pos h2])
  rw [h1] at HS
  have e2:(n != gs)=true:=by simpa using h2
  clear h1 h2 HN
  rw [HP.o]
  go_enter Tryz.func51,Tryz.ntmps51
  go_wp2_with (go_at_call 86;refine HS.o.mono ?_;rintro e w1 ⟨rfl,rfl⟩)
  go_ret
  exact⟨rfl,trivial,rfl⟩
 ·have HP:=Hz (show pP s t n no xs=(s,t,3) from by rw [HN.o,if_neg (by rw [h1];simp),if_neg (fun e=>e h2),if_pos h3])
  rw [h1] at HS
  subst h2
  clear h1 HN
  rw [HP.o]
  by_cases h0:no<0
  ·clear h3
   go_enter Tryz.func51,Tryz.ntmps51
   go_wp2_with (go_at_call 86;refine HS.o.mono ?_;rintro e w1 ⟨rfl,rfl⟩)
   go_ret
   exact⟨rfl,trivial,rfl⟩
  ·have h3':(B:Int)≤no:=by rcases h3 with h|h;exact absurd h h0;exact h
   clear h3
   go_enter Tryz.func51,Tryz.ntmps51
   go_wp2_with (first
    | (go_at_call 86;refine HS.o.mono ?_;rintro e w1 ⟨rfl,rfl⟩)
    | (go_at_call 81;refine (HB.o _).mono ?_;rintro e w1 ⟨rfl,rfl⟩))
   go_ret
   exact⟨rfl,trivial,rfl⟩
 ·have HP:=Hz (show pP s t n no xs=(s,t,14) from by rw [HN.o,if_neg (by rw [h1];simp),if_neg (fun e=>e h2),if_neg h3,if_pos h4])
  rw [h1] at HS
  subst h2
  have h30 : ¬no<0:=fun h=>h3 (.inl h)
  have h31 : ¬(B:Int)≤no:=fun h=>h3 (.inr h)
  have e4:((m:Int) != 16)=true:=by simp;omega
  clear h1 h3 h4 HN
  rw [HP.o]
  go_enter Tryz.func51,Tryz.ntmps51
  go_wp2_with (first
   | (go_at_call 86;refine HS.o.mono ?_;rintro e w1 ⟨rfl,rfl⟩)
   | (go_at_call 81;refine (HB.o _).mono ?_;rintro e w1 ⟨rfl,rfl⟩))
  go_ret
  exact⟨rfl,trivial,rfl⟩
 ·have HP:=Hz (show pP s t n no xs=(s,t,0) from by rw [HN.o,if_neg (by rw [h1];simp),if_neg (fun e=>e h2),if_neg h3,if_neg (fun e=>e h4),if_pos h5])
  rw [h1] at HS
  rw [h5] at HH
  subst h2 h4
  have h30 : ¬no<0:=fun h=>h3 (.inl h)
  have h31 : ¬(B:Int)≤no:=fun h=>h3 (.inr h)
  clear h1 h3 h5 HN
  rw [HP.o]
  go_enter Tryz.func51,Tryz.ntmps51
  go_wp2_with (first
   | (go_at_call 86;refine HS.o.mono ?_;rintro e w1 ⟨rfl,rfl⟩)
   | (go_at_call 81;refine (HB.o _).mono ?_;rintro e w1 ⟨rfl,rfl⟩)
   | (go_at_call 87;refine (HH.o _).mono ?_;rintro e w1 ⟨rfl,rfl⟩))
  go_ret
  exact⟨rfl,trivial,rfl⟩
end
end StgN
namespace StgN
open Kit Byt Mem DskA DskD DskF RecM StgM
open RecA (sval scells sok n64)
open BitM (hb pw)
open BitB (wv)
theorem qqs {k:Nat} (hk:k≤9) (w:World):Calls Tryz.prog 88 #[.int .i64 (k:Nat)] w fun e w'=>e=.returned (.tuple #[.int .i64 ((k/4:Nat):Int),.int .i64 ((16*(k%4):Nat):Int),.bool true])∧Bw w w':=by
 have h:=PlaN.Yz (k:Int) w (n64_nat (by omega))
 rw [show PlaN.bi (k:Int)=((k/4:Nat):Int) from by unfold PlaN.bi;rw [if_pos (by omega)];omega,show PlaN.bf (k:Int)=((16*(k%4):Nat):Int) from by unfold PlaN.bf;rw [if_pos (by omega)];omega,show PlaN.bb (k:Int)=true from by unfold PlaN.bb;exact decide_eq_true_iff.2 (by omega)] at h
 exact h
theorem img_no {w w':World} {s:St} {i:Nat} {e:Ending} (hd:s.down=true) (h:Img w s i e w'):Bw w w'∧∃A n,e=.returned (.tuple #[.agg #[.int .i64 (i:Int),.slice A n n],.int .i64 8]):=by
 obtain⟨h1,A,n,h2,_⟩:=h
 rw [if_pos hd] at h2
 exact⟨h1,A,n,h2⟩
theorem qvi {w w':World} {s:St} {i:Nat} {e:Ending} (hd:s.down=false) (h:Img w s i e w'):Bw w w'∧∃b,e=.returned (.tuple #[.agg #[.int .i64 (i:Int),.slice (some ⟨b,0,none⟩) 64 64],.int .i64 0])∧Blk w' b 5 (u8n (now s i))∧w.heap.size≤b∧(now s i).length=64:=by
 obtain⟨h1,A,n,h2,h3⟩:=h
 rw [if_neg (by rw [hd];simp)] at h2
 obtain⟨rfl,h4⟩:=h3.o hd
 obtain⟨b,rfl,_⟩:=DskB.Zz h4 (by omega)
 have hl:=h4.1
 rw [Qv] at hl
 exact⟨h1,b,h2,(blk_of_own h4).1,(blk_of_own h4).2,by omega⟩
theorem qwq {w w4:World} {F J:Nat→Prop} {g a:Nat} {s:St} {t:Slt} (h:DS w F J g a s t) (L4:Bw w w4) {b:Nat} {sb:List Nat} (HB4:Blk w4 b 5 (u8n sb)) (hb:w.heap.size≤b) (hl:sb.length=64) {u:Nat} (hu:u<s.S.length) {nx:Sg} (hk:sok nx) (hr:nx.right) (o:Obj) :
 Calls Tryz.prog 85 #[.pointer (some ⟨a,0,none⟩),sval nx,.slice (some ⟨w4.heap.size+1,0,none⟩) 1 1] ((w4.alloc o).alloc (.cells #[.int .i64 (u:Nat),.slice (some ⟨b,0,none⟩) 64 64] 169)) (Sgo F J g a w (.int .i64 (pQ s [(u,sb),(t.at_,shut nx.bytes)]).2) (pQ s [(u,sb),(t.at_,shut nx.bytes)]).1 (became t true nx (pQ s [(u,sb),(t.at_,shut nx.bytes)]).2)):=by
 have hs4:=L4.size
 have L5:Bw w (w4.alloc o):=L4.alloc L4.size o
 have L6:=L5.alloc L5.size (.cells #[.int .i64 (u:Nat),.slice (some ⟨b,0,none⟩) 64 64] 169)
 have hB6:=(HB4.alloc o).alloc (.cells #[.int .i64 (u:Nat),.slice (some ⟨b,0,none⟩) 64 64] 169)
 have hS6:=Blk.new (w4.alloc o) 169 (stepc u (some ⟨b,0,none⟩) 64 64)
 have hz:(w4.alloc o).heap.size=w4.heap.size+1:=Ms _ _
 rw [hz] at hS6
 have hlt:=h.lt
 have hbl:=HB4.lt
 have hown:((w4.alloc o).alloc (.cells #[.int .i64 (u:Nat),.slice (some ⟨b,0,none⟩) 64 64] 169)).ownsRow w.heap.size 169 2 (.slice (some ⟨w4.heap.size+1,0,none⟩) 1 1) 1 (stc [⟨u,some ⟨b,0,none⟩,64,sb⟩]):=
  ⟨rfl,.inr ⟨w4.heap.size+1,1,_,rfl,by omega,hS6,by omega,by unfold maxLen;omega,rfl,rfl⟩⟩
 exact qqq L6 h nx hk hr _ 1 1 [⟨u,some ⟨b,0,none⟩,64,sb⟩] (by omega) hown (fun e he=>by
  rw [List.mem_singleton.1 he]
  refine⟨⟨blk_rd hB6 hl (by omega),fun q o' hA hF=>?_,hu⟩,fun q o' hA=>⟨fun hJ=>?_,fun e'=>?_⟩⟩
  ·have h1:=hlt q (.inl hF)
   injection hA with hA
   injection hA with hA _
   omega
  ·have h1:=hlt q (.inr hJ)
   injection hA with hA
   injection hA with hA _
   omega
  ·injection hA with hA
   injection hA with hA _
   have e2:w4.heap.size+1=q:=by
    have:some (w4.heap.size+1)=some q:=e'
    injection this
   omega)
section
variable {F J:Nat→Prop} {g a:Nat} {s:St} {t:Slt} {D:Option Addr} {d k:Nat} {xs:List Nat} {w:World}
theorem qwr (h:DS w F J g a s t) (hg:t.g.right) (_hm:xs.length=16) (h1:t.has=true) (hk:k<blocks t.g.z) (h5:hb t.g.h k=false) (hd:s.down=true) :
 Calls Tryz.prog 51 #[.pointer (some ⟨a,0,none⟩),.int .i64 t.g.s,.int .i64 (k:Nat),.slice D 16 d] w (Sgo F J g a w (.int .i64 8) s t):=by
 have hk10:k≤9:=by have:=Jg hg.2.1.2;omega
 obtain⟨_,_,_,c3,c4,c5⟩:=h.sm.cells
 have HS:=Hz (show Calls Tryz.prog 86 #[.pointer (some ⟨a,0,none⟩)] w fun e w'=>e=.returned (.bool true)∧w=w' from by have:=staged_any h.sm;rw [h1] at this;exact this)
 have HB:=Hz (fun w'=>RecG.blocks_any t.g.z w' h.sm.ok.z)
 have HH:=Hz (show ∀w',Calls Tryz.prog 87 #[.int .i64 t.g.h,.int .i64 (k:Nat)] w' fun e w''=>e=.returned (.bool false)∧w'=w'' from fun w'=>by have:=BitO.has_any t.g.h k w';rw [h5] at this;exact this)
 have HP:=Hz (fun w'=>qqs hk10 w')
 have HIM:=Hz (fun w' (hb:Bw w w')=>(image_any (h.below hb) (k/4) (by omega)).mono fun _ _=>img_no hd)
 have H:=Hz h
 obtain⟨gs,hgs⟩:∃gs,gs=t.g.s:=⟨_,rfl⟩
 obtain⟨gz,hgz⟩:∃gz,gz=t.g.z:=⟨_,rfl⟩
 obtain⟨gh,hgh⟩:∃gh,gh=t.g.h:=⟨_,rfl⟩
 obtain⟨B,hB⟩:∃B,B=blocks t.g.z:=⟨_,rfl⟩
 obtain⟨q,hq⟩:∃q,q=k/4:=⟨_,rfl⟩
 obtain⟨o,ho⟩:∃o,o=16*(k%4):=⟨_,rfl⟩
 rw [←hq] at HP HIM
 rw [←ho] at HP
 rw [←hB] at HB hk
 rw [←hgz] at HB c4
 rw [←hgs] at c3 ⊢
 rw [←hgh] at c5 HH
 have h30 : ¬((k:Int)<0):=by omega
 have h31 : ¬((B:Int)≤(k:Int)):=by omega
 clear h hg _hm h1 h5 hd hgs hgz hgh hB hq ho hk
 go_enter Tryz.func51,Tryz.ntmps51
 go_wp2_with (first
  | (go_at_call 86;refine HS.o.mono ?_;rintro e w1 ⟨rfl,rfl⟩)
  | (go_at_call 81;refine (HB.o _).mono ?_;rintro e w1 ⟨rfl,rfl⟩)
  | (go_at_call 87;refine (HH.o _).mono ?_;rintro e w1 ⟨rfl,rfl⟩)
  | (go_at_call 88;refine (HP.o _).mono ?_;rintro e w1 ⟨rfl,hb1⟩;have L1:=Hz hb1;clear hb1)
  | (go_at_call 89;refine (HIM.o _ L1.o).mono ?_;rintro e w2 ⟨hb2,A,n,rfl⟩;have L2:=Hz (L1.o.trans (hb2.mono L1.o.size));clear hb2))
 go_ret
 have L3:=L2.o.alloc L2.o.size (.cells #[.int .i64 (t.dat q:Nat),.slice A n n] 169)
 exact Sgo.disk H.o (H.o.dk.below L3) (Keep.of_below L3) fun i hi=>.inl hi
theorem qws (h:DS w F J g a s t) (hg:t.g.right) (hR:Rd w D 16 d (u8n xs)) (h1:t.has=true) (hk:k<blocks t.g.z) (h5:hb t.g.h k=false) (hd:s.down=false) :
 Calls Tryz.prog 51 #[.pointer (some ⟨a,0,none⟩),.int .i64 t.g.s,.int .i64 (k:Nat),.slice D 16 d] w (Sgo F J g a w (.int .i64 (pP s t t.g.s k xs).2.2) (pP s t t.g.s k xs).1 (pP s t t.g.s k xs).2.1):=by
 have hm:xs.length=16:=Rd.nats hR
 have hk10:k≤9:=by have:=Jg hg.2.1.2;omega
 obtain⟨_,_,_,c3,c4,c5⟩:=h.sm.cells
 have HS:=Hz (show Calls Tryz.prog 86 #[.pointer (some ⟨a,0,none⟩)] w fun e w'=>e=.returned (.bool true)∧w=w' from by have:=staged_any h.sm;rw [h1] at this;exact this)
 have HB:=Hz (fun w'=>RecG.blocks_any t.g.z w' h.sm.ok.z)
 have HH:=Hz (show ∀w',Calls Tryz.prog 87 #[.int .i64 t.g.h,.int .i64 (k:Nat)] w' fun e w''=>e=.returned (.bool false)∧w'=w'' from fun w'=>by have:=BitO.has_any t.g.h k w';rw [h5] at this;exact this)
 have HP:=Hz (fun w'=>qqs hk10 w')
 have HIM:=Hz (fun w' (hb:Bw w w')=>(image_any (h.below hb) (k/4) (by omega)).mono fun _ _=>qvi hd)
 have HWI:=Hz (fun w'=>BitO.qwn t.g.h k w' h.sm.ok.h)
 have HRD:=Hz hR
 have HXL:=Hz hm
 have H:=Hz h
 have HPP:=Hz (pP_eq (s:=s) (t:=t) (n:=t.g.s) (no:=(k:Int)) (d:=xs) h1 rfl ⟨by omega,by omega⟩ hm h5)
 have HMR:=Hz (more_right hg hk h5)
 obtain⟨R,hRR⟩:∃R,R=pP s t t.g.s k xs:=⟨_,rfl⟩
 rw [←hRR] at HPP ⊢
 clear hRR
 obtain⟨mg,hmg⟩:∃mg,mg=more t.g k:=⟨_,rfl⟩
 rw [←hmg] at HPP HMR
 have HMG:=Hz (show mg=⟨t.g.s,t.g.z,wv t.g.h k⟩ from hmg)
 obtain⟨gs,hgs⟩:∃gs,gs=t.g.s:=⟨_,rfl⟩
 obtain⟨gz,hgz⟩:∃gz,gz=t.g.z:=⟨_,rfl⟩
 obtain⟨gh,hgh⟩:∃gh,gh=t.g.h:=⟨_,rfl⟩
 obtain⟨B,hB⟩:∃B,B=blocks t.g.z:=⟨_,rfl⟩
 obtain⟨q,hq⟩:∃q,q=k/4:=⟨_,rfl⟩
 obtain⟨o,ho⟩:∃o,o=16*(k%4):=⟨_,rfl⟩
 rw [←hq] at HP HIM
 rw [←ho] at HP
 rw [←hB] at HB hk
 rw [←hgz] at HB c4 HMG
 rw [←hgs] at c3 HMG ⊢
 rw [←hgh] at c5 HH HWI HMG
 obtain⟨gv,hgv⟩:∃gv,gv=wv gh k:=⟨_,rfl⟩
 rw [←hgv] at HWI HMG
 have HEQ:=Hz (And.intro hgs (And.intro hgz hgh))
 have HQO:=Hz (show q=k/4∧o=16*(k%4) from⟨hq,ho⟩)
 have ho48:(o:Int)≤48:=by omega
 have h30 : ¬((k:Int)<0):=by omega
 have h31 : ¬((B:Int)≤(k:Int)):=by omega
 obtain⟨u,hu⟩:∃u,u=t.dat q:=⟨_,rfl⟩
 rw [←hu] at HIM
 have HU:=Hz hu
 obtain⟨nb,hnb⟩:∃nb,nb=now s u:=⟨_,rfl⟩
 rw [←hnb] at HIM
 have HNB:=Hz hnb
 have HTL:=Hz (show ∀(w4:World) (b:Nat),Bw w w4→Blk w4 b 5 (u8n (into nb o xs))→(w.heap.size≤b∧nb.length=64)→∀ob:Obj,Calls Tryz.prog 85 #[.pointer (some ⟨a,0,none⟩),.agg #[.int .i64 gs,.int .i64 gz,.int .i64 gv],.slice (some ⟨w4.heap.size+1,0,none⟩) 1 1] ((w4.alloc ob).alloc (.cells #[.int .i64 (u:Nat),.slice (some ⟨b,0,none⟩) 64 64] 169)) (Sgo F J g a w (.int .i64 R.2.2) R.1 R.2.1) from fun w4 b h4 hB4 hbb ob=>by
  have hf:=h.fits
  have hT:=qwq h h4 hB4 hbb.1 (StgP.qqd hbb.2 (by omega) hm) (u:=u) (by rw [hu,hq];unfold Slt.dat;omega) (nx:=mg) (right_ok HMR.o) HMR.o ob
  have e:sect s t (k:Int).toNat xs=into nb o xs:=by
   unfold sect
   rw [show (k:Int).toNat=k from by omega,←hq,←ho,hnb,hu]
  rw [HPP.o,e,show (k:Int).toNat=k from by omega,←hq,←hu]
  rw [HMG.o] at hT ⊢
  exact hT)
 clear h hg hm hR h1 h5 hd hgs hgz hgh hB hq ho hk hmg hgv hu hnb hk10
 go_enter Tryz.func51,Tryz.ntmps51
 go_wp2_with (first
  | (go_at_call 86;refine HS.o.mono ?_;rintro e w1 ⟨rfl,rfl⟩)
  | (go_at_call 81;refine (HB.o _).mono ?_;rintro e w1 ⟨rfl,rfl⟩)
  | (go_at_call 87;refine (HH.o _).mono ?_;rintro e w1 ⟨rfl,rfl⟩)
  | (go_at_call 88;refine (HP.o _).mono ?_;rintro e w1 ⟨rfl,hb1⟩;have L1:=Hz hb1;clear hb1)
  | (go_at_call 89;refine (HIM.o _ L1.o).mono ?_;rintro e w2 ⟨hb2,b,rfl,hB2,hbb,hl2⟩;have L2:=L1.o.trans (hb2.mono L1.o.size);have L3:=Hz (L2.alloc L2.size (.cells #[.int .i64 (u:Nat),.slice (some ⟨b,0,none⟩) 64 64] 169));have HB3:=Hz (hB2.alloc (.cells #[.int .i64 (u:Nat),.slice (some ⟨b,0,none⟩) 64 64] 169));have HR3:=Hz (HRD.o.below L3.o);have HBB:=Hz (show w.heap.size≤b∧b<w2.heap.size∧nb.length=64 from⟨Ml L1.o.size hbb,hB2.lt,hl2⟩);have HS3:=Hz (Blk.new w2 169 (stepc u (some ⟨b,0,none⟩) 64 64));clear hb2 hB2 hbb hl2 L2)
  | (refine Ql rfl (.tmp 73) (.tmp 74) 31 31 rfl 5 Tryz.underlying31 DskB.size8 b o (64-o) (64-o) rfl rfl HR3.o (u8n_one _) HB3.o (by rw [Qv,HBB.o.2.2];omega) ?_;intro w4 m hm hB4 ho4;obtain rfl:m=16:=(by have:=hm.o;omega);have L4:=Hz (ho4.o.below L3.o HBB.o.1 L3.o.size);have HB4:=Hz (show Blk w4 b 5 (u8n (into nb o xs)) from Hx HXL.o▸hB4.o);have HS4:=Hz (ho4.o.blk HS3.o (by have:=HBB.o.2.1;omega));obtain⟨_,_,_,c3',c4',c5'⟩:=(H.o.sm.below L4.o).cells;have hal:=(H.o.sm.below L4.o).blk.lt;obtain⟨e1,e2,e3⟩:=HEQ.o;rw [←e1] at c3';rw [←e2] at c4';rw [←e3] at c5';have s0:w4.cell? ⟨w2.heap.size,0,none⟩=some (.int .i64 (u:Nat)):=HS4.o.cell rfl;have s1:w4.cell? ⟨w2.heap.size,1,none⟩=some (.slice (some ⟨b,0,none⟩) 64 64):=HS4.o.cell rfl;have h24:=HS4.o.lt;clear e1 e2 e3 c3 c4 c5 hm hB4 ho4 HB3 HR3 HS3)
  | (go_at_call 90;refine (HWI.o _).mono ?_;rintro e w5 ⟨rfl,rfl⟩)
  | (go_at_call 85;refine (HTL.o w4 b L4.o HB4.o ⟨HBB.o.1,HBB.o.2.2⟩ _).mono ?_;rintro e w6 ⟨rfl,hgo⟩;have HGO:=Hz hgo;clear hgo))
 go_ret
 exact⟨rfl,HGO.o⟩
end
theorem put_any (F J:Nat→Prop) (g a:Nat) (s:St) (t:Slt) (n no:Int) (D:Option Addr) (m d:Nat) (xs:List Nat) (w:World) (h:DS w F J g a s t) (_:n64 n) (hno:n64 no) (hg:t.has=true→t.g.right) (hR:Rd w D m d (u8n xs)) (_:byt xs) (_:∀b o,D=some ⟨b,o,none⟩→¬F b∧¬J b) :
 Calls Tryz.prog 51 #[.pointer (some ⟨a,0,none⟩),.int .i64 n,.int .i64 no,.slice D m d] w (Sgo F J g a w (.int .i64 (pP s t n no xs).2.2) (pP s t n no xs).1 (pP s t n no xs).2.1):=by
 have hm:xs.length=m:=Rd.nats hR
 have early:(t.has=false∨(t.has=true∧n≠t.g.s)∨(t.has=true∧n=t.g.s∧(no<0∨(blocks t.g.z:Int)≤no))∨(t.has=true∧n=t.g.s∧¬(no<0∨(blocks t.g.z:Int)≤no)∧m≠16)∨(t.has=true∧n=t.g.s∧¬(no<0∨(blocks t.g.z:Int)≤no)∧m=16∧hb t.g.h no=true))→
  Calls Tryz.prog 51 #[.pointer (some ⟨a,0,none⟩),.int .i64 n,.int .i64 no,.slice D m d] w (Sgo F J g a w (.int .i64 (pP s t n no xs).2.2) (pP s t n no xs).1 (pP s t n no xs).2.1):=fun hc=>
  (put_early (D:=D) (d:=d) h hno hm hc).mono fun e w' he=>by
    obtain⟨rfl,h2,rfl⟩:=he
    have e1:(pP s t n no xs).1=s:=by rw [h2]
    have e2:(pP s t n no xs).2.1=t:=by rw [h2]
    rw [e1,e2]
    exact Sgo.disk h h.dk (Keep.refl _ _) fun i hi=>.inl hi
 cases h1:t.has with
 | false=>exact early (.inl h1)
 | true=>
   by_cases h2:n=t.g.s
   ·by_cases h3:no<0∨(blocks t.g.z:Int)≤no
    ·exact early (.inr (.inr (.inl ⟨h1,h2,h3⟩)))
    ·by_cases h4:m=16
     ·cases h5:hb t.g.h no with
      | true=>exact early (.inr (.inr (.inr (.inr ⟨h1,h2,h3,h4,h5⟩))))
      | false=>
        obtain⟨k,rfl⟩:∃k:Nat,no=k:=⟨no.toNat,by omega⟩
        subst h2 h4
        cases hd:s.down with
        | true=>
          rw [pP_down h1 rfl ⟨by omega,by omega⟩ hm h5 hd]
          exact qwr h (hg h1) hm h1 (by omega) h5 hd
        | false=>exact qws h (hg h1) hR h1 (by omega) h5 hd
     ·exact early (.inr (.inr (.inr (.inl ⟨h1,h2,h3,h4⟩))))
   ·exact early (.inr (.inl ⟨h1,h2⟩))
end StgN
namespace StgN
open Kit Byt DskA DskD DskF RecM StgM
open RecA (sval scells sok n64)
open BitA (miss lim)
def acc (s:St) (t:Slt):Nat→List Nat
 | 0=>[]
 | k+1=>acc s t k++now s (t.dat k)
theorem qvj (s:St) (t:Slt):acc s t 3=now s (t.dat 0)++(now s (t.dat 1)++now s (t.dat 2)):=by simp [acc]
theorem qwt (s:St) (t:Slt) {k z:Nat} (hk:k≤3) (hz:z≤(acc s t k).length):(acc s t 3).take z=(acc s t k).take z:=by
 have:∀m,∃r,acc s t (k+m)=acc s t k++r:=by
  intro m
  induction m with
  | zero=>exact⟨[],by simp⟩
  | succ m ih=>
    obtain⟨r,hr⟩:=ih
    exact⟨r++now s (t.dat (k+m)),by rw [←Nat.add_assoc,acc,hr,List.append_assoc]⟩
 obtain⟨r,hr⟩:=this (3-k)
 rw [show k+(3-k)=3 from by omega] at hr
 rw [hr,List.take_append_of_le_length hz]
theorem Kx {z:Int} (h:z≤160):lim (blocks z:Int)=blocks z:=BitC.lim_nat (by have:=Jg h;omega)
def Ys (w:World) (s:St) (t:Slt) (e:Ending) (w':World):Prop:=
 ∃B m d,e=.returned (.tuple #[.slice B m d,.int .i64 (pY s t).2])∧Rd w' B m d (u8n (pY s t).1)∧Bw w w'∧(∀q o,B=some ⟨q,o,none⟩→w.heap.size≤q)
theorem Ys.empty {w w':World} {s:St} {t:Slt} {e:Int} (h:pY s t=([],e)) (hb:Bw w w'):Ys w s t (.returned (.tuple #[.slice none 0 0,.int .i64 e])) w':=by
 refine⟨none,0,0,by rw [h],?_,hb,fun q o h=>by cases h⟩
 rw [h]
 exact Rd.nil w'
theorem Rd.few {w:World} {A:Option Addr} {n z c:Nat} {xs:List Nat} (h:Rd w A n c (u8n xs)) (hz:z≤n):Rd w A z c (u8n (xs.take z)):=by
 have hl:xs.length=n:=Rd.nats h
 refine⟨by rw [Qv,Mk_];omega,by have:=h.2.1;omega,h.2.2.1,fun hp=>?_⟩
 obtain⟨b,o,hA,hb,hj⟩:=h.2.2.2 (by omega)
 refine⟨b,o,hA,hb,fun j u hu=>hj j u ?_⟩
 rw [show u8n (xs.take z)=(u8n xs).take z from by simp [u8n,List.map_take],List.getElem?_take] at hu
 split at hu
 ·exact hu
 ·cases hu
section
variable {F J:Nat→Prop} {g a:Nat} {s:St} {t:Slt} {w:World}
theorem qji (h:DS w F J g a s t) (h1:t.has=false):Calls Tryz.prog 95 #[.pointer (some ⟨a,0,none⟩)] w (Ys w s t):=by
 have HS:=Hz (show Calls Tryz.prog 86 #[.pointer (some ⟨a,0,none⟩)] w fun e w'=>e=.returned (.bool false)∧w=w' from by have:=staged_any h.sm;rw [h1] at this;exact this)
 have HY:=Hz (show pY s t=([],16) from by unfold pY;rw [if_pos h1])
 clear h h1
 go_enter Tryz.func95,Tryz.ntmps95
 go_wp2_with (go_at_call 86;refine HS.o.mono ?_;rintro e w1 ⟨rfl,rfl⟩)
 go_ret2
 exact Ys.empty HY.o (Mb _ _)
theorem qjj (h:DS w F J g a s t) (h1:t.has=true) (hg:t.g.right) (h2:miss t.g.h (blocks t.g.z)≠[]):Calls Tryz.prog 95 #[.pointer (some ⟨a,0,none⟩)] w (Ys w s t):=by
 have HS:=Hz (show Calls Tryz.prog 86 #[.pointer (some ⟨a,0,none⟩)] w fun e w'=>e=.returned (.bool true)∧w=w' from by have:=staged_any h.sm;rw [h1] at this;exact this)
 have HY:=Hz (show pY s t=([],11) from by unfold pY;rw [if_neg (by rw [h1];simp),if_pos h2])
 have HW:=Hz (show Calls Tryz.prog 141 #[.pointer (some ⟨a,0,none⟩)] w fun e w'=>e=.returned (.bool false)∧Bw w w' from by
  have:=Nw h.sm
  rw [Kx hg.2.1.2,show (miss t.g.h (blocks t.g.z)).isEmpty=false from by simpa using h2] at this
  exact this)
 clear h h1 h2 hg
 go_enter Tryz.func95,Tryz.ntmps95
 go_wp2_with (first
  | (go_at_call 86;refine HS.o.mono ?_;rintro e w1 ⟨rfl,rfl⟩)
  | (go_at_call 141;refine HW.o.mono ?_;rintro e w1 ⟨rfl,hb1⟩;have L1:=Hz hb1;clear hb1))
 go_ret2
 exact Ys.empty HY.o L1.o
theorem qvk (h:DS w F J g a s t) (h1:t.has=true) (hg:t.g.right) (h2:miss t.g.h (blocks t.g.z)=[]):Calls Tryz.prog 95 #[.pointer (some ⟨a,0,none⟩)] w (Ys w s t):=by
 obtain⟨i0,hi0,hz0,hz1,hz2⟩:=info_parts NumA.info8
 have HS:=Hz (show Calls Tryz.prog 86 #[.pointer (some ⟨a,0,none⟩)] w fun e w'=>e=.returned (.bool true)∧w=w' from by have:=staged_any h.sm;rw [h1] at this;exact this)
 have HYD:=Hz (show s.down=true→pY s t=([],8) from fun hd=>by unfold pY;rw [if_neg (by rw [h1];simp),if_neg (fun e=>e h2),if_pos hd])
 have HYU:=Hz (show s.down=false→pY s t=((acc s t 3).take t.g.z.toNat,0) from fun hd=>by unfold pY;rw [if_neg (by rw [h1];simp),if_neg (fun e=>e h2),if_neg (by rw [hd];simp),qvj])
 have HW:=Hz (show Calls Tryz.prog 141 #[.pointer (some ⟨a,0,none⟩)] w fun e w'=>e=.returned (.bool true)∧Bw w w' from by
  have:=Nw h.sm
  rw [Kx hg.2.1.2,show (miss t.g.h (blocks t.g.z)).isEmpty=true from by simpa using h2] at this
  exact this)
 have HIM:=Hz (fun w' (hb:Bw w w') (k:Nat) (hk:k≤2)=>image_any (h.below hb) k hk)
 have H:=Hz h
 obtain⟨z,hz⟩:∃z:Nat,(z:Int)=t.g.z:=⟨t.g.z.toNat,by have:=hg.2.1.1;omega⟩
 have hz1':1≤z:=by have:=hg.2.1.1;omega
 have hz160:z≤160:=by have:=hg.2.1.2;omega
 rw [show t.g.z.toNat=z from by omega] at HYU
 have HZ:=Hz hz
 clear h h1 h2 hg hz
 go_enter Tryz.func95,Tryz.ntmps95
 go_wp2_with (first
  | (go_at_call 86;refine HS.o.mono ?_;rintro e w1 ⟨rfl,rfl⟩)
  | (go_at_call 141;refine HW.o.mono ?_;rintro e w1 ⟨rfl,hb1⟩;have L1:=Hz hb1;clear hb1))
 go_loopw [4,5] (fun b i wr=>∃(k n:Nat) (B:Option Addr) (c:Nat),k≤3∧Hid (n=64*k)∧b=.slice B n c∧i=.int .i64 k∧Hid (wr.ownsRow w.heap.size 5 1 (.slice B n c) n (u8n (acc s t k)))∧Hid (Bw w wr)∧Hid (0<k→s.down=false)) (fun _ i _=>3-(intOf i).toNat)
 case atStart=>exact⟨0,0,none,0,by omega,Hz rfl,rfl,rfl,Hz (World.ownsRow_nil _ _ _ _),L1,Hz fun h=>absurd h (by omega)⟩
 case round=>
  obtain⟨k,n,B,c,hk,hn,rfl,rfl,HO,LR,HU⟩:=hrel
  obtain⟨_,_,_,_,c4,_⟩:=(H.o.sm.below LR.o).cells
  rw [←HZ.o] at c4
  have hal:=(H.o.sm.below LR.o).blk.lt
  have hcap:=(Rd.own HO.o).2.1
  by_cases hlt:n<z
  ·have hk2:k≤2:=by have:=hn.o;omega
   have hn128:n≤128:=by have:=hn.o;omega
   have hlt':(n:Int)<(z:Int):=by omega
   cases hd:s.down with
   | true=>
     have HI:=Hz ((HIM.o wr LR.o k hk2).mono fun _ _=>img_no hd)
     have HD:=Hz hd
     clear hd
     go_wp2_with (go_at_call 89;refine HI.o.mono ?_;rintro e w2 ⟨hb2,A,m,rfl⟩;have L2:=Hz (LR.o.trans (hb2.mono LR.o.size));clear hb2)
     go_ret2
     exact Ys.empty (HYD.o HD.o) (L2.o.alloc L2.o.size _)
   | false=>
     have HI:=Hz ((HIM.o wr LR.o k hk2).mono fun _ _=>qvi hd)
     have HD:=Hz hd
     clear hd
     go_wp2_with (first
      | (go_at_call 89;refine HI.o.mono ?_;rintro e w2 ⟨hb2,b,rfl,hB2,hbb,hl2⟩;have L2:=LR.o.trans (hb2.mono LR.o.size);have L3:=Hz (L2.alloc L2.size (.cells #[.int .i64 (t.dat k:Nat),.slice (some ⟨b,0,none⟩) 64 64] 169));have HO3:=Hz (own_below (own_below HO.o hb2) ((Mb w2.heap.size w2).alloc (Mr _) (.cells #[.int .i64 (t.dat k:Nat),.slice (some ⟨b,0,none⟩) 64 64] 169)));have HR3:=Hz ((blk_rd hB2 hl2 (by omega)).alloc (.cells #[.int .i64 (t.dat k:Nat),.slice (some ⟨b,0,none⟩) 64 64] 169));clear hb2 hB2 hbb hl2 L2)
      | (at_builtin;refine Qu _ rfl (.tmp 38) (.tmp 40) _ rfl w.heap.size 5 i0 _ 1 Tryz.underlying31 hi0 hz0 hz1 hz2 rfl _ n _ rfl HO3.o (some ⟨b,0,none⟩) 64 64 (u8n (now s (t.dat k))) rfl HR3.o (u8n_one _) (by omega) (by omega) L3.o.size ?_;intro A4 n4 c4' w4 hn4 hown4 hg4 hat4;have L4:=Hz (below_add L3.o HO3.o (Mr _) hg4);have HO4:=Hz hown4;have HN4:=hn4;clear hat4 hg4 hown4 hn4))
     go_roundw
     case rel=>exact⟨k+1,n4,A4,c4',by omega,Hz (by have:=HN4.o;have:=hn.o;omega),rfl,by go_num,Hz (by have:=HO4.o;rw [Ju] at this;exact this),L4,Hz fun _=>trivial⟩
     case measure=>simp [intOf];omega
  ·have hle:(z:Int)≤(n:Int):=by omega
   have hzc:(z:Int)≤(c:Int):=by omega
   have hd:=HU.o (by have:=hn.o;omega)
   have HX:=Hz (HYU.o hd)
   have HL:=Hz (show acc s t 3=acc s t 3∧n=(acc s t k).length from⟨rfl,by have:=HO.o.1;rw [Qv] at this;omega⟩)
   clear hd
   go_wp2_with fail
   go_ret2
   refine⟨B,z,c,by rw [HX.o];rfl,?_,LR.o,fun q o hB=>?_⟩
   ·rw [HX.o,qwt s t hk (by have:=HL.o.2;omega)]
    exact Rd.few (Rd.own HO.o) (by omega)
   ·have hB':(Value.slice B n c).ownBlock=some q:=by rw [hB];rfl
    exact (HO.o.lt q hB').1
theorem bytes_new (F J:Nat→Prop) (g a:Nat) (s:St) (t:Slt) (w:World) (h:DS w F J g a s t) (hg:t.has=true→t.g.right) :
 Calls Tryz.prog 95 #[.pointer (some ⟨a,0,none⟩)] w (Ys w s t):=by
 cases h1:t.has with
 | false=>exact qji h h1
 | true=>
   by_cases h2:miss t.g.h (blocks t.g.z)=[]
   ·exact qvk h h1 (hg h1) h2
   ·exact qjj h h1 (hg h1) h2
end
end StgN
namespace StgN
open Kit Byt DskA StgM
theorem Wl (F J:Nat→Prop) (g a:Nat) (s:St) (t:Slt) (w:World) (h:DS w F J g a s t) (hg:t.has=true→t.g.right) :
 Calls Tryz.prog 95 #[.pointer (some ⟨a,0,none⟩)] w fun e w'=>∃B m d,e=.returned (.tuple #[.slice B m d,.int .i64 (pY s t).2])∧Rd w' B m d (u8n (pY s t).1)∧Bw w w':=
 (bytes_new F J g a s t w h hg).mono fun _ _ ⟨B,m,d,h1,h2,h3,_⟩=>⟨B,m,d,h1,h2,h3⟩
end StgN
namespace StgJ
open DskA DskE RecM StgM StgP StgQ
open RecA (n64 sval)
open DskB (newSt cnt zs)
section
variable {S0:List (List Nat)} {s:St} {t:Slt} {x:Rf}
theorem free_B (h:Inv S0 s t x) (f:Free s) (n z:Int):(pB s t n z).2.2=(rB x n z).2∧Inv S0 (pB s t n z).1 (pB s t n z).2.1 (rB x n z).1∧Free (pB s t n z).1∧(pB s t n z).2.1.p=t.p∧(pB s t n z).2.1.k=t.k:=by
 have hp:=put1_free f t.at_ (shut (fresh n z).bytes)
 have hne:(pB s t n z).2.2≠8∧Free (pB s t n z).1∧(pB s t n z).2.1.p=t.p∧(pB s t n z).2.1.k=t.k:=by
  unfold pB
  split
  ·rw [if_pos hp.1]
   exact⟨by show (0:Int)≠8;omega,hp.2,rfl,rfl⟩
  ·exact⟨by show (3:Int)≠8;omega,f,rfl,rfl⟩
 rcases step_B h n z with⟨h1,_,h2⟩|⟨h1,_⟩
 ·exact⟨h1,h2,hne.2⟩
 ·exact absurd h1 hne.1
theorem free_P (h:Inv S0 s t x) (f:Free s) (n no:Int) (d:List Nat) (hbd:byt d):(pP s t n no d).2.2=(rP x n no d).2∧Inv S0 (pP s t n no d).1 (pP s t n no d).2.1 (rP x n no d).1∧Free (pP s t n no d).1∧(pP s t n no d).2.1.p=t.p∧(pP s t n no d).2.1.k=t.k:=by
 have hp:=put1_free f (t.dat (no.toNat/4)) (sect s t no.toNat d)
 have hq:=put1_free hp.2 t.at_ (shut (more t.g no).bytes)
 have hne:(pP s t n no d).2.2≠8∧Free (pP s t n no d).1∧(pP s t n no d).2.1.p=t.p∧(pP s t n no d).2.1.k=t.k:=by
  unfold pP
  split
  ·exact⟨by show (16:Int)≠8;omega,f,rfl,rfl⟩
  split
  ·exact⟨by show (17:Int)≠8;omega,f,rfl,rfl⟩
  split
  ·exact⟨by show (3:Int)≠8;omega,f,rfl,rfl⟩
  split
  ·exact⟨by show (14:Int)≠8;omega,f,rfl,rfl⟩
  split
  ·exact⟨by show (0:Int)≠8;omega,f,rfl,rfl⟩
  rw [if_neg (fun e=>e hp.1),if_neg (fun e=>e hq.1)]
  exact⟨by show (0:Int)≠8;omega,hq.2,rfl,rfl⟩
 rcases step_P h n no d hbd with⟨h1,_,h2⟩|⟨h1,_⟩
 ·exact⟨h1,h2,hne.2⟩
 ·exact absurd h1 hne.1
end
theorem qvl:(getS (zs 64)).2≠0:=by
 have e:wrong 83 8 (zs 64)=2:=by
  have:=Yk 83 0 64 8 (by omega)
  rw [if_pos rfl] at this
  exact this
 unfold getS
 rw [e,if_pos (by omega)]
 show (2:Int)≠0
 omega
section
variable {w0 w w':World} {F J:Nat→Prop} {g a p k:Nat} {S0:List (List Nat)} {s:St} {x:Rf}
theorem right_of {t:Slt} (h:Inv S0 s t x):t.has=true→t.g.right:=fun e=>by rw [h.g];exact h.wf.right (by rw [←h.has];exact e)
end
end StgJ
namespace StoMk
open DskA DskB DskE RecM StgM StgP StgQ StgJ CmtM Put2 StoM StoK
open ShaM (by256)
def pL (s:St) (t:Slt) (xs:List Nat):Nat→St×Slt
 | 0=>((pB s t 1 (xs.length:Nat)).1,(pB s t 1 (xs.length:Nat)).2.1)
 | j+1=>((pP (pL s t xs j).1 (pL s t xs j).2 1 (j:Nat) (bk xs j)).1,(pP (pL s t xs j).1 (pL s t xs j).2 1 (j:Nat) (bk xs j)).2.1)
structure Ls (S0:List (List Nat)) (t:Slt) (xs:List Nat) (x:Rf) (j:Nat) (r:St×Slt):Prop where
 inv:Inv S0 r.1 r.2 (ldX xs 1 x j)
 free:Free r.1
 p:r.2.p=t.p
 k:r.2.k=t.k
section
variable {S0:List (List Nat)} {s:St} {t:Slt} {x:Rf} {xs:List Nat}
theorem pL_first (h:Inv S0 s t x) (f:Free s) (hn:1≤xs.length∧xs.length≤160):(pB s t 1 (xs.length:Nat)).2.2=0∧Ls S0 t xs x 0 (pL s t xs 0):=by
 obtain⟨h1,h2,h3,h4,h5⟩:=free_B h f 1 (xs.length:Nat)
 exact⟨by rw [h1];exact (ld_first x (by omega) hn).1,h2,h3,h4,h5⟩
theorem pL_next (hx:by256 xs) (hn:1≤xs.length∧xs.length≤160) {j:Nat} (hj:j<blocks (xs.length:Nat)) (h:Ls S0 t xs x j (pL s t xs j)) :
 (pP (pL s t xs j).1 (pL s t xs j).2 1 (j:Nat) (bk xs j)).2.2=0∧Ls S0 t xs x (j+1) (pL s t xs (j+1)):=by
 obtain⟨h1,h2,h3,h4,h5⟩:=free_P h.inv h.free 1 (j:Nat) (bk xs j) (fun c hc=>bk_by hx j c hc)
 have hl:=ldx (xs:=xs) x (q:=1) (by omega) hn j (by omega)
 exact⟨by rw [h1];exact (ld_put hl (by rw [hl.len];omega)).1,h2,h3,by rw [show (pL s t xs (j+1)).2.p=(pP (pL s t xs j).1 (pL s t xs j).2 1 (j:Nat) (bk xs j)).2.1.p from rfl,h4,h.p],by rw [show (pL s t xs (j+1)).2.k=(pP (pL s t xs j).1 (pL s t xs j).2 1 (j:Nat) (bk xs j)).2.1.k from rfl,h5,h.k]⟩
theorem pL_all (h:Inv S0 s t x) (f:Free s) (hx:by256 xs) (hn:1≤xs.length∧xs.length≤160):∀j,j≤blocks (xs.length:Nat)→Ls S0 t xs x j (pL s t xs j)
 | 0,_=>(pL_first h f hn).2
 | j+1,hj=>(pL_next hx hn (by omega) (pL_all h f hx hn j (by omega))).2
end
theorem lF_S {s:St} (hu:Up0 s) (f:Free s) {p:Nat} (hl:10*p+2≤s.S.length):(lF s p).1.S=(s.S.set (10*p+1) (zs 64)).set (10*p) (shut (one p).bytes):=by
 have h1:=put1_free f (10*p+1) (zs 64)
 have h2:=put1_free h1.2 (10*p) (shut (one p).bytes)
 have hb:=J5 (xs:=(one p).bytes) (by rw [Rc.bytes_len];omega)
 unfold lF
 rw [if_pos h1.1]
 rcases Jz hu (i:=10*p+1) (bs:=zs 64) (by omega) (zs_len 64) with⟨_,gu,gS⟩|⟨g8,_⟩
 ·rcases Jz gu (i:=10*p) (bs:=shut (one p).bytes) (by rw [gS,List.length_set];omega) hb with⟨_,_,kS⟩|⟨k8,_⟩
  ·rw [kS,gS]
  ·rw [h2.1] at k8;exact absurd k8 (by omega)
 ·rw [h1.1] at g8;exact absurd g8 (by omega)
structure Mk (s:St) (N k:Nat) (O:Nat→Ow):Prop where
 up:Up0 s
 free:Free s
 byts:Byts s
 len:s.S.length=N
 cr:∀p,p<k→Okw p (O p)∧CR s.S p (O p) 0
 zs:∀j,10*k≤j→j<N→s.S.getD j []=zs 64
theorem mk_new (m:Int) (O:Nat→Ow):Mk (newSt m) (cnt m) 0 O:=
 ⟨⟨rfl,rfl,new_ok m⟩,⟨by show (-1:Int)<0;omega,rfl⟩,K8 m,N6 m,fun p hp=>by omega,fun j _ hj=>K4 m j hj⟩
section
variable {s:St} {N k:Nat} {O:Nat→Ow} {xs:List Nat}
theorem Mk.rep (h:Mk s N k O) (hN:10*k+10≤N) {j:Nat} (hj:j≤1):Rep s.S (pO s k j) Rf.none:=by
 refine⟨fun e=>(by cases e),fun _=>?_,fun i hi=>(by simp [Rf.none] at hi)⟩
 rw [show (pO s k j).at_=10*k+2+4*j from rfl,h.zs _ (by omega) (by omega)]
 exact qvl
theorem Mk.inv (h:Mk s N k O) (hN:10*k+10≤N) {j:Nat} (hj:j≤1):Inv s.S s (pO s k j) Rf.none:=by
 have hr:=h.rep hN hj
 have hl:=N8 (t:=pO s k j) h.up.none_ hr Wk
 exact⟨h.up,hr,hl.1,hl.2,Wk,by rw [show (pO s k j).at_=10*k+2+4*j from rfl,h.len];omega,⟨rfl,fun _ _=>rfl⟩,h.byts⟩
theorem Mk.next (h:Mk s N k O) (hk:k≤3) (hN:10*k+10≤N) (hx:by256 xs) (hn:1≤xs.length∧xs.length≤160) (hO:Okw k (O k)) (hr:(O k).r=one k) (h0:(O k).x 0=ldX xs 1 Rf.none (blocks (xs.length:Nat))) (h1:(O k).x 1=Rf.none) :
 (lF (pL s (pO s k 0) xs (blocks (xs.length:Nat))).1 k).2=0∧Mk (lF (pL s (pO s k 0) xs (blocks (xs.length:Nat))).1 k).1 N (k+1) O:=by
 have hi:=h.inv hN (j:=0) (by omega)
 have ha:=pL_all (xs:=xs) hi h.free hx hn _ (Mr _)
 obtain⟨q,hq⟩:∃q,q=pL s (pO s k 0) xs (blocks (xs.length:Nat)):=⟨_,rfl⟩
 rw [←hq] at ha ⊢
 have hql:q.1.S.length=N:=by rw [ha.inv.o.1,h.len]
 have hat:q.2.at_=10*k+2:=by unfold Slt.at_;rw [ha.p,ha.k];rfl
 have hout:∀j,j<10*k+2∨10*k+6≤j→q.1.S.getD j []=s.S.getD j []:=fun j hj=>ha.inv.o.2 j (by rw [hat];omega)
 have hf:=free_F ha.inv.up ha.free ha.inv.byts (p:=k) hk (by omega)
 have hS:=lF_S ha.inv.up ha.free (p:=k) (by omega)
 have hget:∀j,j<10*k∨10*k+2≤j→(lF q.1 k).1.S.getD j []=q.1.S.getD j []:=fun j hj=>by
  rw [hS,Qh _ (by rw [List.length_set];omega),if_neg (by omega),Qh _ (by omega),if_neg (by omega)]
 have hNl:(lF q.1 k).1.S.length=N:=by rw [hS,List.length_set,List.length_set,hql]
 refine⟨hf.1,hf.2.1.up,hf.2.2,hf.2.1.byts,hNl,fun p hp=>?_,fun j hj hjN=>?_⟩
 ·by_cases e:p=k
  ·subst e
   refine⟨hO,?_,fun j hj=>?_⟩
   ·rw [hr];exact hf.2.1.tell
   ·rcases (show j=0∨j=1 from by omega) with rfl|rfl
    ·rw [h0]
     refine Y8 (S:=q.1.S) (t:=pl p 0 _) (Rep.to ha.inv.rep (by rw [hat];rfl)) ha.inv.wf fun i h2 h3=>hget i (by rw [pl_at] at h2;omega)
    ·rw [h1]
     refine⟨fun e=>(by cases e),fun _=>?_,fun i hi=>(by simp [Rf.none] at hi)⟩
     rw [pl_at,hget _ (by omega),hout _ (by omega),h.zs _ (by omega) (by omega)]
     exact qvl
  ·have hp':p<k:=by omega
   have h2:=h.cr p hp'
   exact⟨h2.1,h2.2.cong h2.1 fun j h3 h4=>by rw [hget j (by omega),hout j (by omega)]⟩
 ·rw [hget j (by omega),hout j (by omega)]
  exact h.zs j (by omega) hjN
theorem Mk.su (h:Mk s N k O) (hk:k≤4) (hN:10*k≤N):SU s k (opn s) O:=su_of h.up h.byts hk (by rw [h.len];exact hN) (fun p hp=>(h.cr p hp).1) fun p hp=>⟨0,by omega,(h.cr p hp).2⟩
end
end StoMk
namespace StoLd
open DskA DskE RecM StgM StgP StgJ CmtM StoK StoMk
open ShaM (by256)
open BitM (hb)
def stp (r:(St×Slt)×Nat) (d:List Nat):(St×Slt)×Nat:=(((pP r.1.1 r.1.2 1 (r.2:Nat) d).1,(pP r.1.1 r.1.2 1 (r.2:Nat) d).2.1),r.2+1)
def pD (s:St) (t:Slt) (len:Nat) (ds:List (List Nat)):(St×Slt)×Nat:=ds.foldl stp (((pB s t 1 (len:Nat)).1,(pB s t 1 (len:Nat)).2.1),0)
theorem Tq (s:St) (t:Slt) (len:Nat) (ds:List (List Nat)) (d:List Nat):pD s t len (ds++[d])=stp (pD s t len ds) d:=by simp [pD]
theorem pD_n (s:St) (t:Slt) (len:Nat):∀n (ds:List (List Nat)),ds.length=n→(pD s t len ds).2=n
 | 0,ds,h=>by rw [List.eq_nil_of_length_eq_zero h];rfl
 | n+1,ds,h=>by
   obtain⟨ds',d,rfl⟩:∃ds' d,ds=ds'++[d]:=⟨ds.dropLast,ds.getLast (fun e=>by rw [e] at h;cases h),(List.dropLast_concat_getLast _).symm⟩
   rw [Tq]
   show (pD s t len ds').2+1=n+1
   rw [pD_n s t len n ds' (by simpa using h)]
theorem pD_pL (s:St) (t:Slt) (xs:List Nat):∀j,(pD s t xs.length ((List.range j).map (bk xs))).1=pL s t xs j
 | 0=>rfl
 | j+1=>by
   have h2:=pD_n s t xs.length j ((List.range j).map (bk xs)) (by simp)
   rw [List.range_succ,List.map_append,List.map_cons,List.map_nil,Tq]
   unfold stp
   rw [pD_pL s t xs j,h2]
   rfl
structure Pd (S0:List (List Nat)) (t:Slt) (len:Nat) (r:St×Slt):Prop where
 inv:∃x,Inv S0 r.1 r.2 x
 free:Free r.1
 has:r.2.has=true
 ses:r.2.g.s=1
 siz:r.2.g.z=len
 p:r.2.p=t.p
 k:r.2.k=t.k
section
variable {S0:List (List Nat)} {s:St} {t:Slt} {x:Rf} {len:Nat}
theorem pB_pd (h:Inv S0 s t x) (f:Free s) (hn:1≤len∧len≤160):(pB s t 1 (len:Nat)).2.2=0∧Pd S0 t len ((pB s t 1 (len:Nat)).1,(pB s t 1 (len:Nat)).2.1):=by
 have hr:(fresh 1 (len:Nat)).right:=W6 (by omega) (by omega)
 obtain⟨h1,h2,h3,h4,h5⟩:=free_B h f 1 (len:Nat)
 have hp:=(put1_free f t.at_ (shut (fresh 1 (len:Nat)).bytes)).1
 have e:pB s t 1 (len:Nat)=((put1 s t.at_ (shut (fresh 1 (len:Nat)).bytes)).1,{ t with has:=true,g:=fresh 1 (len:Nat) },0):=by
  unfold pB
  rw [if_pos hr,if_pos hp]
 rw [e] at h1 h2 h3 h4 h5 ⊢
 exact⟨rfl,⟨_,h2⟩,h3,rfl,rfl,rfl,h4,h5⟩
theorem pP_pd {r:St×Slt} (h:Pd S0 t len r) (hn:len≤160) {no:Nat} (hno:no<blocks (len:Nat)) {d:List Nat} (hd:d.length=16) (hb':byt d):(pP r.1 r.2 1 (no:Nat) d).2.2=0∧Pd S0 t len ((pP r.1 r.2 1 (no:Nat) d).1,(pP r.1 r.2 1 (no:Nat) d).2.1):=by
 obtain⟨x,hi⟩:=h.inv
 obtain⟨_,h2,h3,h4,h5⟩:=free_P hi h.free 1 (no:Nat) d hb'
 have c1 : ¬r.2.has=false:=by rw [h.has];simp
 have c2 : ¬(1:Int)≠r.2.g.s:=by rw [h.ses];simp
 have c3 : ¬((no:Int)<0∨(blocks r.2.g.z:Int)≤(no:Int)):=by rw [h.siz];omega
 have c4 : ¬d.length≠16:=by rw [hd];simp
 by_cases hh:hb r.2.g.h (no:Nat)=true
 ·have e:pP r.1 r.2 1 (no:Nat) d=(r.1,r.2,0):=by
   unfold pP
   rw [if_neg c1,if_neg c2,if_neg c3,if_neg c4,if_pos hh]
  rw [e]
  exact⟨rfl,h⟩
 ·have f1:=put1_free h.free (r.2.dat ((no:Int).toNat/4)) (sect r.1 r.2 (no:Int).toNat d)
  have f2:=put1_free f1.2 r.2.at_ (shut (more r.2.g (no:Nat)).bytes)
  have e:pP r.1 r.2 1 (no:Nat) d=((put1 (put1 r.1 (r.2.dat ((no:Int).toNat/4)) (sect r.1 r.2 (no:Int).toNat d)).1 r.2.at_ (shut (more r.2.g (no:Nat)).bytes)).1,{ r.2 with g:=more r.2.g (no:Nat) },0):=by
   unfold pP
   rw [if_neg c1,if_neg c2,if_neg c3,if_neg c4,if_neg hh,if_neg (by rw [f1.1];simp),if_neg (by rw [f2.1];simp)]
  rw [e] at h2 h3 h4 h5 ⊢
  exact⟨rfl,⟨_,h2⟩,h3,h.has,h.ses,h.siz,h4.trans h.p,h5.trans h.k⟩
theorem pD_pd (h:Inv S0 s t x) (f:Free s) (hn:1≤len∧len≤160):∀n (ds:List (List Nat)),ds.length=n→n≤blocks (len:Nat)→(∀d ∈ ds,d.length=16∧byt d)→Pd S0 t len (pD s t len ds).1
 | 0,ds,hl,_,_=>by rw [List.eq_nil_of_length_eq_zero hl];exact (pB_pd h f hn).2
 | n+1,ds,hl,hm,hd=>by
   obtain⟨ds',d,rfl⟩:∃ds' d,ds=ds'++[d]:=⟨ds.dropLast,ds.getLast (fun e=>by rw [e] at hl;cases hl),(List.dropLast_concat_getLast _).symm⟩
   have hl':ds'.length=n:=by simpa using hl
   have h1:=pD_pd h f hn n ds' hl' (by omega) fun d hd'=>hd d (List.mem_append.2 (.inl hd'))
   have h2:=hd d (List.mem_append.2 (.inr (List.mem_singleton.2 rfl)))
   rw [Tq]
   have hnn:=pD_n s t len n ds' hl'
   have h3:=(pP_pd h1 hn.2 (no:=n) (by omega) h2.1 h2.2).2
   unfold stp
   rw [hnn]
   exact h3
end
end StoLd
namespace StoLd
open Go.Shelf Mem
open BitP (Kp Kp.refl Kp.t Kp.b J0)
attribute [local go_sem] Oper.semAt_some
def nbk (n:Nat):Nat:=(n+15)/16
def pce (n k:Nat):Nat:=min 16 (n-16*k)
def enc (b o n:Nat) (x:Fin (nbk n)):Array Value:=#[.slice (some ⟨b,o+16*x.val,none⟩) (pce n x.val) (pce n x.val)]
def upto {N:Nat} (l:List (Fin N)) (k:Nat):Prop:=l.map (·.val)=List.range k
theorem qvm (m:Nat) (hm:3≤m) (l Bs Bn b o n c:Nat) (hn:0<n∧n≤1000) (hc:n≤c∧c≤9223372036854775807) (J Jx:List (Fin (nbk n))→World→Prop) (hA:∀pre A,J pre A→J pre A.drew)
 (hY:∀pre x W,J pre W→pre.length<nbk n→YieldAt Fence.wide (m-1) Tryz.prog l (enc b o n x) W fun e W'=>
   (e=.returned (.bool true)∧J (pre++[x]) W'∧Kp Bs Bn W W')∨(e=.returned (.bool false)∧Jx (pre++[x]) W'))
 (W:World) (hcs:Blk W Bs 31 [.slice (some ⟨b,o,none⟩) n c]) (hcn:Blk W Bn 3 [.int .i64 16]) (h0:J [] W) :
 CallsIn Fence.wide m Tryz.prog 153 #[.func (.yield l) #[] #[],.pointer (some ⟨Bs,0,none⟩),.pointer (some ⟨Bn,0,none⟩)] W fun e W'=>(∃v,e=.returned v)∧
  ((∃ys,upto ys (nbk n)∧J ys W')∨(∃pre,(∃k,k≤nbk n∧upto pre k)∧Jx pre W')):=by
 have hN:nbk n≤1000:=by unfold nbk;omega
 have hN2:16*nbk n<n+16∧n≤16*nbk n:=by unfold nbk;omega
 have h1m:1≤m:=by omega
 obtain⟨N,hNN⟩:∃N,N=nbk n:=⟨_,rfl⟩
 refine callsIn_of_wp Tryz.func153 rfl trivial ?_ rfl
 simp only [Tryz.ntmps153,List.size_toArray,List.length_cons,List.length_nil,Nat.reduceAdd,Nat.reduceSub,Array.replicate_succ,Array.replicate_zero,List.push_toArray,List.append_toArray,List.nil_append,List.cons_append]
 gi_wp2
 gi_loopw [4] (fun i wr=>∃(k:Nat) (pre:List (Fin (nbk n))),k≤nbk n∧i=.int .i64 ((16*k:Nat):Int)∧Hid (upto pre k)∧J pre wr∧Kp Bs Bn W wr) (fun i _=>nbk n-(intOf i).toNat/16)
 case atStart=>exact⟨0,[],Nat.zero_le _,rfl,Hz rfl,h0,Kp.refl _⟩
 case round=>
  obtain⟨k,pre,hk,rfl,HV,hJ,hkp⟩:=hrel
  have cs:=((show Blk wr Bs 31 [.slice (some ⟨b,o,none⟩) n c] from hkp.1.trans hcs)).cell (i:=0) rfl
  have cn:=((show Blk wr Bn 3 [.int .i64 16] from hkp.2.trans hcn)).cell (i:=0) rfl
  by_cases hlt:k<nbk n
  ·have hkn:16*k<n:=by unfold nbk at hlt;omega
   obtain⟨q,hq⟩:∃q,q=16*k:=⟨_,rfl⟩
   obtain⟨fn,tmps,assign,body,hy,hR⟩:=hY pre (⟨k,hlt⟩:Fin (nbk n)) wr.drew (hA _ _ hJ) (by
    have h8:=congrArg List.length HV.o
    rw [List.length_map,List.length_range] at h8
    omega)
   simp only [enc,pce] at hy
   rw [←hq] at hy ⊢
   have hqn:(q:Int)<n:=by omega
   have hqn':q<n:=by omega
   have HQ:=Hz hq
   clear hq hkn
   gi_wp2
   gi_region
   obtain⟨p,hp⟩:∃p,p=min 16 (n-q):=⟨_,rfl⟩
   rw [←hp] at hy
   have hif:(if ((n-q:Nat):Int)<16 then ((n-q:Nat):Int) else 16)=(p:Int):=by rw [hp];split <;> omega
   simp only [hif]
   have hpn:q+p≤n:=by omega
   have hp0:0<p:=by omega
   have hqc:q+p≤c:=by omega
   have hsum:IntKind.i64.wrap ((q:Int)+(p:Int))=((q+p:Nat):Int):=by rw [Mi_];omega
   clear hif hp
   gi_wp2
   refine hR.mono ?_
   rintro e W3 (⟨rfl,hJ3,hk3⟩|⟨rfl,hJx3⟩)
   ·have hk4:Kp Bs Bn wr W3:=hk3
    have hkw:=hkp.t hk4
    have cn3:=((show Blk W3 Bn 3 [.int .i64 16] from hkw.2.trans hcn)).cell (i:=0) rfl
    have hs2:IntKind.i64.wrap ((q:Int)+16)=((q+16:Nat):Int):=by rw [Mi_];omega
    gi_wp2
    go_roundw
    case rel=>exact⟨k+1,_,by omega,by rw [show 16*(k+1)=q+16 from by have:=HQ.o;omega];go_num,Hz (by unfold upto;rw [List.map_append,List.range_succ];exact congrArg (·++[k]) HV.o),hJ3,hkw⟩
    case measure=>simp [intOf];have:=HQ.o;omega
   ·gi_wp2
    refine bodyPost_ret (results_none rfl _ _ _) rfl ?_
    exact⟨⟨_,rfl⟩,.inr ⟨_,⟨k+1,by omega,by unfold upto;rw [List.map_append,List.range_succ];exact congrArg (·++[k]) HV.o⟩,hJx3⟩⟩
  ·obtain rfl:k=nbk n:=by omega
   have hge : ¬((16*nbk n:Nat):Int)<(n:Nat):=by omega
   gi_wp2
   go_end0
   exact⟨⟨_,rfl⟩,.inl ⟨_,HV.o,hJ⟩⟩
theorem chunk_in (m:Nat) (A:Option Addr) (n c:Nat) (w:World) :
 CallsIn Fence.wide m Tryz.prog 114 #[.slice A n c,.int .i64 16] w fun e w'=>e=.returned (.func (.func 153) #[] #[.pointer (some ⟨w.heap.size,0,none⟩),.pointer (some ⟨w.heap.size+1,0,none⟩)])∧w'=(w.alloc (.cells #[.slice A n c] 31)).alloc (.cells #[.int .i64 16] 3):=by
 refine callsIn_of_wp Tryz.func114 rfl trivial ?_ rfl
 simp only [Tryz.ntmps114,List.size_toArray,List.length_cons,List.length_nil,Nat.reduceAdd,Nat.reduceSub,Array.replicate_succ,Array.replicate_zero,List.push_toArray,List.append_toArray,List.nil_append,List.cons_append]
 gi_wp2
 go_ret
 exact⟨rfl,rfl⟩
theorem chunk_stops (m:Nat) (hm:3≤m) (Bs Bn b o n c:Nat) (hn:0<n∧n≤1000) (hc:n≤c∧c≤9223372036854775807) (w:World) (hcs:Blk w Bs 31 [.slice (some ⟨b,o,none⟩) n c]) (hcn:Blk w Bn 3 [.int .i64 16]) :
 SeqStopsK Fence.wide m Tryz.prog 153 #[.pointer (some ⟨Bs,0,none⟩),.pointer (some ⟨Bn,0,none⟩)] (enc b o n) (Kp Bs Bn) (fun ys=>upto ys (nbk n)) (fun pre=>∃k,k≤nbk n∧upto pre k) (nbk n) w:=fun l J Jx W hW hA _ hY h0=>
 qvm m hm l Bs Bn b o n c hn hc J Jx (fun pre A h=>hA pre A A.drew none h ⟨rfl,rfl,rfl,Mr _,fun _ _ _=>rfl⟩ fun r e=>(by cases e)) hY W (hcs.below hW) (hcn.below hW) h0
end StoLd
namespace CmtC
open RecM RecA
theorem rc_eq {r k:Rc} (h1:r.p=k.p) (h2:r.q=k.q) (h3:r.a=k.a) (h4:r.c=k.c) (h5:r.l=k.l) (h6:r.b=k.b):r=k:=by
 obtain⟨a,b,c,d,e,f⟩:=r
 obtain⟨a',b',c',d',e',f'⟩:=k
 simp only at h1 h2 h3 h4 h5 h6
 subst h1 h2 h3 h4 h5 h6
 rfl
theorem req (r k:Rc) (b:Bool) (hb:b=true↔r=k) (w:World):(Op.equalIn 10000 66 (rval r) (rval k)).run Tryz.prog w=.ok b w:=by
 have ht:Tryz.prog.underlying 66=some (.struct (Tryz.prog.fieldsOf 66)):=by kernel_rfl
 have hp:Tryz.prog.stoodInHeld 66=false:=by kernel_rfl
 rw [show (10000:Nat)=9999+1 from rfl,run_equalIn_struct w 9999 _ _ _ ht hp]
 have e:b=(((((((r.p==k.p)&&(r.q==k.q))&&(r.a==k.a))&&(r.c==k.c))&&(r.l==k.l))&&(r.b==k.b))):=by
  rw [Bool.eq_iff_iff,hb]
  simp only [Bool.and_eq_true,beq_iff_eq]
  exact⟨fun h=>by rw [h];exact⟨⟨⟨⟨⟨rfl,rfl⟩,rfl⟩,rfl⟩,rfl⟩,rfl⟩,fun⟨⟨⟨⟨⟨h1,h2⟩,h3⟩,h4⟩,h5⟩,h6⟩=>rc_eq h1 h2 h3 h4 h5 h6⟩
 subst e
 simp [go_sem,Op.eqFields,Tryz.underlying66,Tryz.underlying3]
 clear hb
 (repeat' split) <;> simp [*]
end CmtC
namespace CmtN
open Kit Byt Mem DskA DskC DskE DskF RecM CmtM StgM PlaM
open RecA (rval rcells rok)
def lgc (g:Nat) (l:Lg):List Value:=[.pointer (some ⟨g,0,none⟩),.int .i64 (l.p:Nat),.int .i64 l.r.p,.int .i64 l.r.q,.int .i64 l.r.a,.int .i64 l.r.c,.int .i64 l.r.l,.int .i64 l.r.b,.int .i64 (l.i:Nat)]
structure Lm (w:World) (J:Nat→Prop) (a g:Nat) (l:Lg):Prop where
 blk:Blk w a 146 (lgc g l)
 own:∀i,J i↔i=a
 ok:rok l.r
theorem Lm.keep {w w':World} {J G:Nat→Prop} {a g:Nat} {l:Lg} (h:Lm w J a g l) (k:Keep G w w') (hd:∀i,J i→¬G i):Lm w' J a g l:=
 ⟨k.blk h.blk (hd a ((h.own a).2 rfl)),h.own,h.ok⟩
theorem Lm.lt {w:World} {J:Nat→Prop} {a g:Nat} {l:Lg} (h:Lm w J a g l):∀i,J i→i<w.heap.size:=fun i hi=>by
 rw [(h.own i).1 hi]
 exact h.blk.lt
theorem Lm.below {w w':World} {J:Nat→Prop} {a g:Nat} {l:Lg} (h:Lm w J a g l) (hb:Bw w w'):Lm w' J a g l:=h.keep (Keep.of_below (F:=fun _=>False) hb) fun _ _ h=>h
theorem Lm.cells {w:World} {J:Nat→Prop} {a g:Nat} {l:Lg} (h:Lm w J a g l):w.cell? ⟨a,0,none⟩=some (.pointer (some ⟨g,0,none⟩))∧w.cell? ⟨a,1,none⟩=some (.int .i64 (l.p:Nat))∧w.cell? ⟨a,3,none⟩=some (.int .i64 l.r.q)∧w.cell? ⟨a,8,none⟩=some (.int .i64 (l.i:Nat)):=
 ⟨h.blk.cell rfl,h.blk.cell rfl,h.blk.cell rfl,h.blk.cell rfl⟩
structure LS (w:World) (F J:Nat→Prop) (g a:Nat) (s:St) (l:Lg):Prop where
 dk:Dk w F g s
 lm:Lm w J a g l
 dis:∀i,F i→¬J i
 most:s.L.length≤1000000
 fits:l.p≤3∧10*l.p+2≤s.S.length
 rec_:l.r.right∧l.r.p=l.p∧l.i≤1
def Lgo (F J:Nat→Prop) (g a:Nat) (w:World) (v:Value) (s':St) (l':Lg) (e:Ending) (w':World):Prop:=
 e=.returned v∧∃F' J',Dk w' F' g s'∧Lm w' J' a g l'∧(∀i,F' i→¬J' i)∧Keep (fun i=>F i∨J i) w w'∧(∀i,F' i→(F i∨J i)∨w.heap.size≤i)∧(∀i,J' i→(F i∨J i)∨w.heap.size≤i)
theorem rC_at {p k:Nat} (hp:p≤3) (hk:k≤1):rC (p:Int) (k:Int)=((10*p+k:Nat):Int):=by
 unfold rC fnd
 rw [if_pos (by omega),if_neg (by omega)]
 omega
theorem Ux {p k:Nat} (hp:p≤3) (hk:k≤1) (w:World):Calls Tryz.prog 83 #[.int .i64 (p:Nat),.int .i64 (k:Nat)] w fun e w'=>e=.returned (.tuple #[.int .i64 ((10*p+k:Nat):Int),.bool true])∧Bw w w':=by
 have h:=PlaN.qjd (p:Int) (k:Int) w ⟨by omega,by omega⟩ ⟨by omega,by omega⟩
 rw [rC_at hp hk,PlaN.Ny (by omega),PlaN.Nu (by omega)] at h
 exact h
section
variable {w:World} {F J:Nat→Prop} {a g:Nat} {s:St} {l:Lg}
theorem sector_any (h:Lm w J a g l) (hp:l.p≤3) {i:Nat} (hi:i≤1):Calls Tryz.prog 148 #[.pointer (some ⟨a,0,none⟩),.int .i64 (i:Nat)] w fun e w'=>e=.returned (.int .i64 ((10*l.p+i:Nat):Int))∧Bw w w':=by
 obtain⟨_,c1,_,_⟩:=h.cells
 have hlt:=h.blk.lt
 have HP:=Hz (fun w'=>Ux hp hi w')
 obtain⟨q,hq⟩:∃q,q=10*l.p+i:=⟨_,rfl⟩
 obtain⟨p,hpp⟩:∃p,p=l.p:=⟨_,rfl⟩
 rw [←hq] at HP ⊢
 rw [←hpp] at HP c1
 clear h hp hi hq hpp
 go_enter Tryz.func148,Tryz.ntmps148
 go_wp2_with (go_at_call 83;refine (HP.o _).mono ?_;rintro e w1 ⟨rfl,hb1⟩;have HB:=Hz hb1;clear hb1)
 go_ret
 exact⟨rfl,HB.o⟩
theorem put1_a {s:St} (i:Nat) (bs:List Nat) (h:(spend s).1=false):put1 s i bs=((spend s).2,8):=by
 unfold put1
 rw [if_pos h]
theorem put1_b {s:St} (i:Nat) (bs:List Nat) (h:(spend s).1=true) (h2:(spend (wrote (spend s).2 i bs)).1=false):put1 s i bs=((spend (wrote (spend s).2 i bs)).2,8):=by
 unfold put1
 rw [if_neg (by rw [h];simp),if_pos h2]
theorem put1_c {s:St} (i:Nat) (bs:List Nat) (h:(spend s).1=true) (h2:(spend (wrote (spend s).2 i bs)).1=true):put1 s i bs=(lay (fun _=>true) (spend (wrote (spend s).2 i bs)).2,0):=by
 unfold put1
 rw [if_neg (by rw [h];simp),if_neg (by rw [h2];simp)]
theorem Got.from {w2:World} {v:Value} {s':St} {e:Ending} {w':World} (hb:Bw w w2) (h:Got F g w2 v s' e w'):Got F g w v s' e w':=by
 obtain⟨he,F2,hD,hk2,hf2⟩:=h
 refine⟨he,F2,hD,(Keep.of_below hb).trans hk2 (fun i hi=>.inl hi),fun k h=>?_⟩
 rcases hf2 k h with h|h
 ·exact .inl h
 ·exact .inr (Ml hb.size h)
theorem write_any (hD:Dk w F g s) (h:Lm w J a g l) (hF : ¬F a) (hp:l.p≤3) {i:Nat} (hi:i≤1) (hf:10*l.p+2≤s.S.length) {A:Option Addr} {c:Nat} {bs:List Nat} (hR:Rd w A 64 c (u8n bs)) (hA:∀b o,A=some ⟨b,o,none⟩→¬F b) (hL:s.L.length≤1000000) :
 Calls Tryz.prog 99 #[.pointer (some ⟨a,0,none⟩),.int .i64 (i:Nat),.slice A 64 c] w (Got F g w (.int .i64 (put1 s (10*l.p+i) bs).2) (put1 s (10*l.p+i) bs).1):=by
 obtain⟨c0,_,_,_⟩:=h.cells
 have hlt:=h.blk.lt
 have HS:=Hz (sector_any (h.below ((Mb w.heap.size w).drew)) hp hi)
 have H:=Hz h
 have HF:=Hz hF
 have hq:10*l.p+i<s.S.length:=by omega
 obtain⟨q,hqq⟩:∃q,q=10*l.p+i:=⟨_,rfl⟩
 rw [←hqq] at HS hq ⊢
 have HQ:=Hz hq
 clear h hF hp hi hf hq hqq
 cases hs:(spend s).1 with
 | false=>
   have HW:=Hz (fun w' (hb:Bw w w')=>write_down F g s (q:Int) A c w' (hD.below hb) (by simp [inB,HQ.o]) hs)
   rw [put1_a q bs hs]
   clear hs hD hR hA hL
   go_enter Tryz.func99,Tryz.ntmps99
   go_wp2_with fail
   go_region_held3 (fun w'=>w'.cell? ⟨a,0,none⟩=some (.pointer (some ⟨g,0,none⟩)))
    (first
     | go_keep
     | (rw [hb1.cell (by simpa using hlt)];assumption)
     | (rw [World.cell?_of_block (HK2.o.block a hl1 HF.o)];assumption))
    ((first
      | (have hq:=HB1;clear hq;go_at_call 19;refine (HW.o _ HB1.o).mono ?_;rintro e w2 ⟨rfl,F1,hD1,hk1,hf1⟩;have HD2:=Hz hD1;have HK2:=Hz hk1;have HF2:=Hz hf1;clear hD1 hk1 hf1)
      | (go_at_call 148;refine HS.o.mono ?_;rintro e w1 ⟨rfl,hb1⟩;have HB1:=Hz (show Bw w w1 from ((Mb w.heap.size w).drew).trans hb1);have hl1:a<w1.heap.size:=Mw hlt HB1.o.size)))
   go_wp2
   go_ret
   exact Got.from HB1.o ⟨rfl,F1,HD2.o,HK2.o,HF2.o⟩
 | true=>
   have HW:=Hz (fun w' (hb:Bw w w')=>write_ok F g s q A c bs w' (hD.below hb) HQ.o (hR.below hb) hA hs (by omega))
   have HSP:=Hz hs
   have hm:=Hz hL
   clear hs hD hR hA hL
   go_enter Tryz.func99,Tryz.ntmps99
   go_wp2_with fail
   go_region_held3 (fun w'=>w'.cell? ⟨a,0,none⟩=some (.pointer (some ⟨g,0,none⟩)))
    (first
     | go_keep
     | (rw [hb1.cell (by simpa using hlt)];assumption)
     | (rw [World.cell?_of_block (HK2.o.block a hl1 HF.o)];assumption))
    ((first
      | (have hq:=HB1;clear hq;go_at_call 19;refine (HW.o _ HB1.o).mono ?_;rintro e w2 ⟨rfl,F1,hD1,hk1,hf1⟩;have HD2:=Hz hD1;have HK2:=Hz hk1;have HF2:=Hz hf1;clear hD1 hk1 hf1)
      | (go_at_call 148;refine HS.o.mono ?_;rintro e w1 ⟨rfl,hb1⟩;have HB1:=Hz (show Bw w w1 from ((Mb w.heap.size w).drew).trans hb1);have hl1:a<w1.heap.size:=Mw hlt HB1.o.size)))
   have hw:({ (spend s).2 with L:=s.L++[(q,bs)] }:St)=wrote (spend s).2 q bs:=by
    unfold wrote
    rw [(spend_S s).2]
   have HD3:=Hz (show Dk w2 F1 g (wrote (spend s).2 q bs) from hw▸HD2.o)
   have d0:w2.cell? ⟨a,0,none⟩=some (.pointer (some ⟨g,0,none⟩)):=(World.cell?_of_block (HK2.o.block a hl1 HF.o)).trans ((HB1.o.cell hlt).trans c0)
   have HL:=Hz (show (wrote (spend s).2 q bs).L.length≤1000000000 from by
    show ((spend s).2.L++[(q,bs)]).length≤_
    have:=hm.o
    rw [(spend_S s).2,Ma]
    show s.L.length+1≤_
    omega)
   clear hw HD2 hm c0
   cases hs2:(spend (wrote (spend s).2 q bs)).1 with
   | false=>
     have HFL:=Hz (flush_down F1 g _ w2 HD3.o hs2)
     have HP:=Hz (put1_b q bs HSP.o hs2)
     clear hs2
     go_wp2_with (go_at_call 130;refine HFL.o.mono ?_;rintro e w3 ⟨rfl,F2,hD2,hk2,hf2⟩;have HG:=Hz (Got.trans HK2.o HF2.o (v:=.int .i64 8) ⟨rfl,F2,hD2,hk2,hf2⟩);clear hD2 hk2 hf2)
     go_ret
     rw [HP.o]
     exact Got.from HB1.o HG.o
   | true=>
     have HFL:=Hz (flush_ok F1 g _ w2 HD3.o hs2 HL.o)
     have HP:=Hz (put1_c q bs HSP.o hs2)
     clear hs2
     go_wp2_with (go_at_call 130;refine HFL.o.mono ?_;rintro e w3 ⟨rfl,F2,hD2,hk2,hf2⟩;have HG:=Hz (Got.trans HK2.o HF2.o (v:=.int .i64 0) ⟨rfl,F2,hD2,hk2,hf2⟩);clear hD2 hk2 hf2)
     go_ret
     rw [HP.o]
     exact Got.from HB1.o HG.o
end
theorem Yv:rok Rc.none:=⟨⟨by decide,by decide⟩,⟨by decide,by decide⟩,⟨by decide,by decide⟩,⟨by decide,by decide⟩,⟨by decide,by decide⟩,⟨by decide,by decide⟩⟩
theorem logOf_any (F:Nat→Prop) (g:Nat) (s:St) (p:Nat) (w:World) (hD:Dk w F g s) (hp:p≤3) (hf:10*p+2≤s.S.length) :
 Calls Tryz.prog 115 #[.pointer (some ⟨g,0,none⟩),.int .i64 (p:Nat)] w fun e w'=>∃a,e=.returned (.tuple #[.pointer (some ⟨a,0,none⟩),.int .i64 0])∧w.heap.size≤a∧Lm w' (fun i=>i=a) a g ⟨p,Rc.none,0⟩∧Bw w w':=by
 have H2:=Hz (fun w'=>Ux (p:=p) (k:=1) hp (by omega) w')
 have H3:=Hz (fun w' (h:Bw w w')=>N0 F g s w' (hD.below h))
 have hm:=hD.ok.most
 obtain⟨q,hq⟩:∃q,q=10*p+1:=⟨_,rfl⟩
 rw [←hq] at H2
 have hge:q<s.S.length:=by omega
 obtain⟨N,hN⟩:∃N,N=s.S.length:=⟨_,rfl⟩
 rw [←hN] at H3 hge hm
 clear hq hD hp hf hN
 go_enter Tryz.func115,Tryz.ntmps115
 go_wp2_with (first
  | (go_at_call 83;refine (H2.o _).mono ?_;rintro e w2 ⟨rfl,hb2⟩;have L2:=Hz hb2;clear hb2)
  | (go_at_call 10;refine (H3.o _ L2.o).mono ?_;rintro e w3 ⟨rfl,rfl⟩))
 go_ret2
 exact⟨w2.heap.size,rfl,L2.o.size,⟨Blk.new w2 146 (lgc g ⟨p,Rc.none,0⟩),fun _=>Iff.rfl,Yv⟩,L2.o.alloc L2.o.size _⟩
theorem Jj:(Tryz.prog.info? 66).map (·.size)=some 6:=by kernel_rfl
theorem Uk (J:Nat→Prop) (g a:Nat) (l:Lg) (w:World) (h:Lm w J a g l) :
 Calls Tryz.prog 32 #[.pointer (some ⟨a,0,none⟩)] w fun e w'=>e=.returned (rval l.r)∧Bw w w':=by
 have L0:=Hz (show Bw w (w.alloc (.cells (rcells Rc.none).toArray 66)) from (Mb _ _).alloc (Mr _) _)
 have HB0:=Hz (show Blk (w.alloc (.cells (rcells Rc.none).toArray 66)) w.heap.size 66 (rcells Rc.none) from Blk.new w _ _)
 have HL:=Hz (h.below L0.o).blk
 clear h
 go_enter Tryz.func32,Tryz.ntmps32
 go_wp2_with (first
  | (refine Qz rfl 66 _ rfl a 2 rfl (rcells l.r) HL.o rfl Tryz.underlying66 rfl Jj ?_)
  | (refine Qq rfl 66 (.tmp 2) (.tmp 9) rfl w.heap.size rfl (rcells l.r) rfl HB0.o rfl Jj (RecN.one_r _) ?_;intro w9 hB9 ho9))
 have e0:=hB9.o.cell (i:=0) rfl
 have e1:=hB9.o.cell (i:=1) rfl
 have e2:=hB9.o.cell (i:=2) rfl
 have e3:=hB9.o.cell (i:=3) rfl
 have e4:=hB9.o.cell (i:=4) rfl
 have e5:=hB9.o.cell (i:=5) rfl
 refine bodyPost_ret (v:=rval l.r) (by simp [results,Tryz.results32,go_sem,e0,e1,e2,e3,e4,e5]) rfl ?_
 exact⟨rfl,ho9.o.below L0.o (Mr _) L0.o.size⟩
theorem qjk (w:World):Calls Tryz.prog 32 #[.pointer none] w fun e w'=>e=.returned (rval Rc.none)∧Bw w w':=by
 have L0:=Hz (show Bw w (w.alloc (.cells (rcells Rc.none).toArray 66)) from (Mb _ _).alloc (Mr _) _)
 have HB0:=Hz (show Blk (w.alloc (.cells (rcells Rc.none).toArray 66)) w.heap.size 66 (rcells Rc.none) from Blk.new w _ _)
 go_enter Tryz.func32,Tryz.ntmps32
 go_wp2_with (refine Qq rfl 66 (.tmp 2) (.tmp 5) rfl w.heap.size rfl (rcells Rc.none) rfl HB0.o rfl Jj (RecN.one_r _) ?_;intro w9 hB9 ho9)
 have e0:=hB9.o.cell (i:=0) rfl
 have e1:=hB9.o.cell (i:=1) rfl
 have e2:=hB9.o.cell (i:=2) rfl
 have e3:=hB9.o.cell (i:=3) rfl
 have e4:=hB9.o.cell (i:=4) rfl
 have e5:=hB9.o.cell (i:=5) rfl
 refine bodyPost_ret (v:=rval Rc.none) (by simp [results,Tryz.results32,go_sem,e0,e1,e2,e3,e4,e5]) rfl ?_
 exact⟨rfl,ho9.o.below L0.o (Mr _) L0.o.size⟩
end CmtN
namespace CmtN
open Kit Byt Mem DskA RecM CmtM StgM
open RecA (rval rcells rok)
def nexty (l:Lg) (r:Rc):Rc:=⟨l.p,l.r.q+1,r.a,r.c,r.l,r.b⟩
def sv (s:St) (l:Lg) (r:Rc):St×Lg×Int:=
 if l.r.q=4294967295 then (s,l,4)
 else if (nexty l r).right then
  (if (put1 s (10*l.p+(1-l.i)) (shut (nexty l r).bytes)).2=0 then ((put1 s (10*l.p+(1-l.i)) (shut (nexty l r).bytes)).1,⟨l.p,nexty l r,1-l.i⟩,0)
   else ((put1 s (10*l.p+(1-l.i)) (shut (nexty l r).bytes)).1,l,(put1 s (10*l.p+(1-l.i)) (shut (nexty l r).bytes)).2))
 else (s,l,3)
structure LD (w:World) (F J:Nat→Prop) (g a:Nat) (s:St) (l:Lg):Prop where
 dk:Dk w F g s
 lm:Lm w J a g l
 dis:∀i,F i→¬J i
 most:s.L.length≤1000000
 fits:l.p≤3∧10*l.p+2≤s.S.length
 i1:l.i≤1
 q:0≤l.r.q∧l.r.q≤4294967295
section
variable {w w1:World} {F F1 J:Nat→Prop} {g a:Nat} {s s1:St} {l:Lg}
theorem Lgo.disk {v:Value} (h:LD w F J g a s l) (hD:Dk w1 F1 g s1) (hk:Keep F w w1) (hf:∀i,F1 i→F i∨w.heap.size≤i):Lgo F J g a w v s1 l (.returned v) w1:=
 ⟨rfl,F1,J,hD,h.lm.keep hk fun i hj hF=>h.dis i hF hj,fun i hF hj=>by
  rcases hf i hF with h4|h4
  ·exact h.dis i h4 hj
  ·have:=h.lm.lt i hj;omega,hk.mono fun _ _ h=>.inl h,fun i hi=>(hf i hi).imp .inl id,fun i hi=>.inl (.inr hi)⟩
theorem LD.fa (h:LD w F J g a s l) : ¬F a:=fun hF=>h.dis a hF ((h.lm.own a).2 rfl)
theorem rok_next (h:LD w F J g a s l) {r:Rc} (hr:rok r):rok (nexty l r):=by
 have h1:=h.fits.1
 have h2:=h.q
 exact⟨⟨by show -9223372036854775808≤(l.p:Int);omega,by show (l.p:Int)≤9223372036854775807;omega⟩,⟨by show -9223372036854775808≤l.r.q+1;omega,by show l.r.q+1≤9223372036854775807;omega⟩,hr.a,hr.c,hr.l,hr.b⟩
theorem save_at (h:LD w F J g a s l) (r:Rc) (hr:rok r) :
 Calls Tryz.prog 57 #[.pointer (some ⟨a,0,none⟩),rval r] w (Lgo F J g a w (.int .i64 (sv s l r).2.2) (sv s l r).1 (sv s l r).2.1):=by
 have H:=Hz h
 have L0:=Hz (show Bw w (w.alloc (.cells #[.int .i64 r.p,.int .i64 r.q,.int .i64 r.a,.int .i64 r.c,.int .i64 r.l,.int .i64 r.b] 66)) from (Mb _ _).alloc (Mr _) _)
 have HX0:=Hz (show Blk (w.alloc (.cells #[.int .i64 r.p,.int .i64 r.q,.int .i64 r.a,.int .i64 r.c,.int .i64 r.l,.int .i64 r.b] 66)) w.heap.size 66 (rcells r) from Blk.new w _ _)
 have HK:=Hz (rok_next h hr)
 have hal:=h.lm.blk.lt
 obtain⟨c0,c1,c3,c8⟩:=h.lm.cells
 have hq0:=h.q
 obtain⟨R,hR⟩:∃R,R=sv s l r:=⟨_,rfl⟩
 rw [←hR]
 have HR:=Hz hR
 obtain⟨q,hq⟩:∃q,q=l.r.q:=⟨_,rfl⟩
 obtain⟨p,hp⟩:∃p,p=l.p:=⟨_,rfl⟩
 have hp3:=h.fits.1
 have hi1:=h.i1
 rw [←hp] at c1 hp3
 rw [←hq] at c3 hq0
 have HQ:=Hz hq
 have HP:=Hz hp
 clear h hr hR hq hp
 by_cases hf:q=4294967295
 ·subst hf
  have hRR:R=(s,l,4):=by rw [HR.o];unfold sv;rw [if_pos HQ.o.symm]
  clear HR
  go_enter Tryz.func57,Tryz.ntmps57
  go_wp2
  go_ret
  rw [hRR]
  exact Lgo.disk H.o (H.o.dk.below L0.o) (Keep.of_below L0.o) fun i hi=>.inl hi
 ·obtain⟨y,hy⟩:∃y:Rc,y=⟨(p:Int),q+1,r.a,r.c,r.l,r.b⟩:=⟨_,rfl⟩
  have hyn:y=nexty l r:=by rw [hy,HP.o,HQ.o];rfl
  have LA:=Hz (show Bw w (w.alloc (.cells (rcells y).toArray 66)).drew from ((Mb _ _).alloc (Mr _) _).drew)
  have HXA:=Hz (show Blk (w.alloc (.cells (rcells y).toArray 66)).drew w.heap.size 66 (rcells y) from Blk.new w _ _)
  have HAL:(w.alloc (.cells #[.int .i64 (p:Nat),.int .i64 (q+1),.int .i64 r.a,.int .i64 r.c,.int .i64 r.l,.int .i64 r.b] 66)).drew=(w.alloc (.cells (rcells y).toArray 66)).drew:=by rw [hy];rfl
  have HALH:=Hz HAL
  rw [←hyn] at HK
  have HYN:=Hz hyn
  have HV:=Hz (show rval y=.agg #[.int .i64 (p:Nat),.int .i64 (q+1),.int .i64 r.a,.int .i64 r.c,.int .i64 r.l,.int .i64 r.b] from by rw [hy])
  clear hyn HAL hy
  by_cases hr:y.right
  ·have hRR:R=if (put1 s (10*l.p+(1-l.i)) (shut y.bytes)).2=0 then ((put1 s (10*l.p+(1-l.i)) (shut y.bytes)).1,⟨l.p,y,1-l.i⟩,0) else ((put1 s (10*l.p+(1-l.i)) (shut y.bytes)).1,l,(put1 s (10*l.p+(1-l.i)) (shut y.bytes)).2):=by
    rw [HR.o];unfold sv;rw [if_neg (by rw [←HQ.o];exact hf),←HYN.o,if_pos hr]
   have HPUT:=Hz (RecN.qqo y (w.alloc (.cells (rcells y).toArray 66)).drew HK.o hr)
   have HBL:=Hz (show (shut y.bytes).length=64 from J5 (by rw [Rc.bytes_len];omega))
   obtain⟨P,hP⟩:∃P,P=put1 s (10*l.p+(1-l.i)) (shut y.bytes):=⟨_,rfl⟩
   have h08:=Gq s (10*l.p+(1-l.i)) (shut y.bytes)
   rw [←hP] at h08 hRR
   have HW:=Hz (fun w' (hb:Bw w w') A c (hR:Rd w' A 64 c (u8n (shut y.bytes))) (hA:∀b o,A=some ⟨b,o,none⟩→¬F b)=>write_any (H.o.dk.below hb) (H.o.lm.below hb) H.o.fa H.o.fits.1 (i:=1-l.i) (by omega) H.o.fits.2 hR hA H.o.most)
   obtain⟨o,ho⟩:∃o,o=1-l.i:=⟨_,rfl⟩
   rw [←ho] at hP hRR HW
   have hcase:(l.i=0∧o=1)∨(l.i=1∧o=0):=by omega
   rw [←hP] at HW
   obtain⟨x,hx⟩:∃x,x=P.2:=⟨_,rfl⟩
   rw [←hx] at h08 hRR HW
   have HX:=Hz hx
   have Ho:=Hz ho
   have HPP:=Hz hP
   rw [HV.o] at HPUT
   obtain⟨i,hi⟩:∃i,i=l.i:=⟨_,rfl⟩
   rw [←hi] at c8 hcase
   have HI:=Hz hi
   have hFl:=Hz (H.o.dk.lt)
   have haJ:=Hz ((H.o.lm.own a).2 rfl)
   clear HR hr HV HX0 ho hP hx hi hi1
   rcases hcase with⟨rfl,rfl⟩|⟨rfl,rfl⟩ <;> rcases h08 with rfl|rfl
   all_goals
    go_enter Tryz.func57,Tryz.ntmps57
    go_wp2_with fail
    go_region
    go_wp2_with fail
    rw [HALH.o]
    refine HPUT.o.mono ?_
    rintro e w1 ⟨B,m,d,rfl,hown,hb1⟩
    obtain rfl:m=64:=by { have h1:=hown.1;rw [Qv,HBL.o] at h1;omega }
    have L1:=Hz (LA.o.trans (hb1.mono LA.o.size))
    have HX1:=Hz (HXA.o.below hb1)
    have HBF:=Hz (show ∀b o,B=some ⟨b,o,none⟩→¬F b from fun b o hB hF=>by
     have h1:=(hown.lt b (by rw [hB];rfl)).1
     have h2:=hFl.o b hF
     have h3:=LA.o.size
     omega)
    have HRD:=Hz (Rd.own hown)
    have b8:=(L1.o.cell (p:=⟨a,8,none⟩) hal).trans c8
    clear hb1 hown
    go_wp2_with fail
    refine (HW.o w1 L1.o B d HRD.o HBF.o).mono ?_
    rintro e w2 ⟨rfl,F1,hD1,hk1,hf1⟩
    have HK2:=Hz ((Keep.of_below L1.o).trans hk1 fun i hi=>.inl hi)
    have HF2:=Hz (show ∀i,F1 i→F i∨w.heap.size≤i from fun i hi=>(hf1 i hi).imp id fun h=>Ml L1.o.size h)
    have HD2:=Hz hD1
    have HX2:=Hz (hk1.blk HX1.o fun hF=>by have:=hFl.o _ hF;omega)
    have HL2:=Hz (hk1.blk (H.o.lm.below L1.o).blk H.o.fa)
    clear hD1 hk1 hf1
   rotate_left 1
   iterate 2
    ·go_wp2
     go_ret
     rw [hRR,if_neg (by omega)]
     exact Lgo.disk H.o HD2.o HK2.o HF2.o
    rotate_left 1
   all_goals
    go_wp2_with (first
     | (refine Qj rfl 66 _ rfl w.heap.size rfl HX2.o Tryz.underlying66 rfl Jj ?_)
     | (refine Qk rfl 66 (.tmp 57) (.tmp 54) rfl a 2 rfl (rcells y) rfl HL2.o (by simp [lgc,rcells]) Jj (RecN.one_r _) ?_;intro w3 hB3 ho3;have e8:=hB3.o.cell (i:=8) rfl;have f8:=hB3.o.frozen 8))
    go_ret
    rw [hRR,if_pos trivial]
    have hB4:=hB3.o.set 8 (.int .i64 ((1-l.i:Nat):Int))
    have hk4:Keep (fun i=>i=a) w2 (w3.setCell ⟨a,8,none⟩ (.int .i64 ((1-l.i:Nat):Int))):=(Keep.only (F:=fun i=>i=a) ho3.o rfl).trans (Keep.set (F:=fun i=>i=a) w3 8 _ rfl) fun i hi=>.inl hi
    rw [←Ho.o] at hB4 hk4
    have haF1 : ¬F1 a:=fun hF=>by
     rcases HF2.o a hF with h1|h1
     ·exact H.o.fa h1
     ·omega
    refine⟨rfl,F1,J,HD2.o.keep hk4 (fun i hF (e:i=a)=>haF1 (e▸hF)),⟨hB4,H.o.lm.own,HK.o⟩,fun i hF hj=>haF1 ((H.o.lm.own i).1 hj▸hF),?_,fun i hi=>(HF2.o i hi).imp .inl id,fun i hi=>.inl (.inr hi)⟩
    exact (HK2.o.mono (fun _ _ h=>Or.inl h)).trans (hk4.mono (G:=fun i=>F i∨J i) fun i _ (e:i=a)=>.inr (e▸haJ.o)) fun i hi=>.inl hi
  ·have hRR:R=(s,l,3):=by rw [HR.o];unfold sv;rw [if_neg (by rw [←HQ.o];exact hf),if_neg (by rw [←HYN.o];exact hr)]
   have HPUT:=Hz (RecN.rput_no y (w.alloc (.cells (rcells y).toArray 66)).drew HK.o hr)
   rw [HV.o] at HPUT
   clear HR hr HV HK HXA HX0
   go_enter Tryz.func57,Tryz.ntmps57
   go_wp2_with fail
   go_region
   go_wp2_with fail
   rw [HALH.o]
   refine HPUT.o.mono ?_
   rintro e w1 ⟨rfl,hb1⟩
   have L1:=Hz (LA.o.trans (hb1.mono LA.o.size))
   clear hb1
   go_wp2
   go_ret
   rw [hRR]
   exact Lgo.disk H.o (H.o.dk.below L1.o) (Keep.of_below L1.o) fun i hi=>.inl hi
end
end CmtN
namespace CmtN
open Mem RecM
open RecA (rval rcells rok)
def best (c d:Rc):Nat:=if c.q<d.q then 1 else 0
theorem qjl (c d:Rc) (w:World):Calls Tryz.prog 117 #[.agg (rcells c++rcells d).toArray] w fun e w'=>e=.returned (.int .i64 (best c d:Nat))∧Bw w w':=by
 show Calls _ _ #[.agg #[.int .i64 c.p,.int .i64 c.q,.int .i64 c.a,.int .i64 c.c,.int .i64 c.l,.int .i64 c.b,.int .i64 d.p,.int .i64 d.q,.int .i64 d.a,.int .i64 d.c,.int .i64 d.l,.int .i64 d.b]] w _
 have L0:=Hz (show Bw w (w.alloc (.cells #[.int .i64 c.p,.int .i64 c.q,.int .i64 c.a,.int .i64 c.c,.int .i64 c.l,.int .i64 c.b,.int .i64 d.p,.int .i64 d.q,.int .i64 d.a,.int .i64 d.c,.int .i64 d.l,.int .i64 d.b] 185)) from (Mb _ _).alloc (Mr _) _)
 have B0:=Hz (show Blk (w.alloc (.cells #[.int .i64 c.p,.int .i64 c.q,.int .i64 c.a,.int .i64 c.c,.int .i64 c.l,.int .i64 c.b,.int .i64 d.p,.int .i64 d.q,.int .i64 d.a,.int .i64 d.c,.int .i64 d.l,.int .i64 d.b] 185)) w.heap.size 185 (rcells c++rcells d) from Blk.new w _ _)
 go_enter Tryz.func117,Tryz.ntmps117
 go_wp2
 obtain⟨w0,hw0⟩:∃w0,w0=w.alloc (.cells #[.int .i64 c.p,.int .i64 c.q,.int .i64 c.a,.int .i64 c.c,.int .i64 c.l,.int .i64 c.b,.int .i64 d.p,.int .i64 d.q,.int .i64 d.a,.int .i64 d.c,.int .i64 d.l,.int .i64 d.b] 185):=⟨_,rfl⟩
 rw [←hw0] at L0 B0 ⊢
 clear hw0
 go_loopw [3,5] (fun b i wr=>∃(k m:Nat),k≤2∧i=.int .i64 k∧b=.int .i64 m∧Hid (Bw w wr)∧Hid (Blk wr w.heap.size 185 (rcells c++rcells d))∧Hid ((k<2→m=0)∧(k=2→m=best c d))) (fun _ i _=>2-(intOf i).toNat)
 case atStart=>exact⟨0,0,by omega,rfl,rfl,L0,B0,Hz ⟨fun _=>rfl,fun h=>by omega⟩⟩
 case round=>
  obtain⟨k,m,hk,rfl,rfl,HL,HB,HM⟩:=hrel
  have x1:wr.cell? ⟨w.heap.size,1,none⟩=some (.int .i64 c.q):=HB.o.cell rfl
  have x7:wr.cell? ⟨w.heap.size,7,none⟩=some (.int .i64 d.q):=HB.o.cell rfl
  rcases (show k=0∨k=1∨k=2 by omega) with rfl|rfl|rfl
  ·obtain rfl:m=0:=HM.o.1 (by omega)
   go_wp2
   go_region
   go_wp2
   go_roundw
   case rel=>exact⟨1,0,by omega,by go_num,by go_num,Hz HL.o.drew,Hz HB.o,Hz ⟨fun _=>rfl,fun h=>by omega⟩⟩
   case measure=>simp [intOf]
  ·obtain rfl:m=0:=HM.o.1 (by omega)
   by_cases hlt:c.q<d.q
   ·have HT:=Hz (show 1=best c d from by unfold best;rw [if_pos hlt])
    go_wp2
    go_region
    go_wp2
    go_roundw
    case rel=>exact⟨2,1,by omega,by go_num,by go_num,Hz HL.o.drew,Hz HB.o,Hz ⟨fun h=>by omega,fun h=>HT.o⟩⟩
    case measure=>simp [intOf]
   ·have HT:=Hz (show 0=best c d from by unfold best;rw [if_neg hlt])
    go_wp2
    go_region
    go_wp2
    go_roundw
    case rel=>exact⟨2,0,by omega,by go_num,by go_num,Hz HL.o.drew,Hz HB.o,Hz ⟨fun h=>by omega,fun h=>HT.o⟩⟩
    case measure=>simp [intOf]
  ·obtain rfl:m=best c d:=HM.o.2 rfl
   go_wp2
   go_ret
   exact⟨rfl,HL.o⟩
end CmtN
namespace CmtN
open Kit Byt Mem DskA DskD RecM CmtM
open RecA (rval rcells rok)
theorem Yu:(Tryz.prog.info? 185).map (·.size)=some 12:=by kernel_rfl
def zer:List Value:=rcells Rc.none++rcells Rc.none
def hcs (c d:Rc) (k:Nat):List Value:=if k=0 then zer else if k=1 then rcells c++rcells Rc.none else rcells c++rcells d
theorem one_two (c d:Rc):∀u ∈ rcells c++rcells d,u.oneCell'=true:=by
 intro u hu
 rcases List.mem_append.1 hu with h|h
 ·exact RecN.one_r c u h
 ·exact RecN.one_r d u h
theorem hcs_none {c d y:Rc} {k:Nat} (hk:k<2) (hc:k=0→y=c) (hd:k=1→y=d) (hy:y=Rc.none):hcs c d k=hcs c d (k+1):=by
 rcases (show k=0∨k=1 by omega) with rfl|rfl
 ·rw [show c=Rc.none from (hc rfl).symm.trans hy];rfl
 ·rw [show d=Rc.none from (hd rfl).symm.trans hy];rfl
theorem hcs_yes {c d y:Rc} {k:Nat} (hk:k<2) (hc:k=0→y=c) (hd:k=1→y=d):splice (hcs c d k) (6*k) (rcells y)=hcs c d (k+1):=by
 rcases (show k=0∨k=1 by omega) with rfl|rfl
 ·rw [show y=c from hc rfl];rfl
 ·rw [show y=d from hd rfl];rfl
theorem qvn (c d:Rc) (k:Nat):(hcs c d k).length=12:=by
 unfold hcs
 split
 ·rfl
 ·split <;> rfl
section
variable {w:World} {F J:Nat→Prop} {a g:Nat} {s:St} {l:Lg}
theorem held_any (hD:Dk w F g s) (h:Lm w J a g l) (hp:l.p≤3) (hf:10*l.p+2≤s.S.length) (hu:s.down=false) (hL:s.L.length≤1000000) (hb:∀i,byt (now s i)) :
 Calls Tryz.prog 116 #[.pointer (some ⟨a,0,none⟩)] w fun e w'=>e=.returned (.tuple #[.agg (rcells (cp l.p (now s (10*l.p)))++rcells (cp l.p (now s (10*l.p+1)))).toArray,.int .i64 0])∧Bw w w':=by
 obtain⟨c0,c1,_,_⟩:=h.cells
 have hal:=h.blk.lt
 have H:=Hz h
 have HP3:=Hz hp
 have HRD:=Hz (fun k w' (hk:k≤1) (hb:Bw w w')=>read_ok F g s (10*l.p+k) w' (hD.below hb) (by omega) hu (by omega))
 have HBY:=Hz hb
 obtain⟨p,hpp⟩:∃p,p=l.p:=⟨_,rfl⟩
 rw [←hpp] at c1 HRD ⊢
 have HPP:=Hz hpp
 clear hD h hp hf hu hL hb hpp
 obtain⟨x0,hx0⟩:∃x0,x0=now s (10*p):=⟨_,rfl⟩
 obtain⟨x1,hx1⟩:∃x1,x1=now s (10*p+1):=⟨_,rfl⟩
 rw [←hx0,←hx1]
 have HX:=Hz (And.intro hx0 hx1)
 clear hx0 hx1
 obtain⟨c,hc⟩:∃c,c=cp p x0:=⟨_,rfl⟩
 obtain⟨d,hd⟩:∃d,d=cp p x1:=⟨_,rfl⟩
 rw [←hc,←hd]
 have HCD:=Hz (And.intro hc hd)
 clear hc hd
 have L0:=Hz (show Bw w ((w.alloc (.cells zer.toArray 185)).alloc (.cells zer.toArray 185)) from ((Mb _ _).alloc (Mr _) _).alloc (by rw [Ms];omega) _)
 have B0:=Hz (show Blk ((w.alloc (.cells zer.toArray 185)).alloc (.cells zer.toArray 185)) w.heap.size 185 zer from (Blk.new w _ _).alloc _)
 have B1:=Hz (show Blk ((w.alloc (.cells zer.toArray 185)).alloc (.cells zer.toArray 185)) (w.heap.size+1) 185 zer from by have:=Blk.new (w.alloc (.cells zer.toArray 185)) 185 zer;rw [Ms] at this;exact this)
 go_enter Tryz.func116,Tryz.ntmps116
 go_wp2
 obtain⟨w0,hw0⟩:∃w0,w0=(w.alloc (.cells zer.toArray 185)).alloc (.cells zer.toArray 185):=⟨_,rfl⟩
 rw [←hw0] at L0 B0 B1
 have hw0':(w.alloc (.cells #[.int .i64 0,.int .i64 0,.int .i64 0,.int .i64 0,.int .i64 0,.int .i64 0,.int .i64 0,.int .i64 0,.int .i64 0,.int .i64 0,.int .i64 0,.int .i64 0] 185)).alloc (.cells #[.int .i64 0,.int .i64 0,.int .i64 0,.int .i64 0,.int .i64 0,.int .i64 0,.int .i64 0,.int .i64 0,.int .i64 0,.int .i64 0,.int .i64 0,.int .i64 0] 185)=w0:=hw0.symm
 rw [hw0']
 clear hw0 hw0'
 go_loopw [10] (fun i wr=>∃(k:Nat),k≤2∧i=.int .i64 k∧Hid (Bw w wr)∧Hid (Blk wr w.heap.size 185 zer)∧Hid (Blk wr (w.heap.size+1) 185 (hcs c d k))) (fun i _=>2-(intOf i).toNat)
 case atStart=>exact⟨0,by omega,rfl,L0,B0,B1⟩
 case round=>
  obtain⟨k,hk,rfl,HL,HB,HC⟩:=hrel
  by_cases hlt:k<2
  ·have HS:=Hz (sector_any ((H.o.below HL.o).below ((Mb wr.heap.size wr).drew)) HP3.o (i:=k) (by omega))
   rw [←HPP.o] at HS
   obtain⟨xs,hxs⟩:∃xs,xs=now s (10*p+k):=⟨_,rfl⟩
   have HR:=Hz (fun w' hw=>HRD.o k w' (by omega) hw)
   rw [←hxs] at HR
   have HBX:=Hz (hxs▸HBY.o (10*p+k))
   obtain⟨q,hq⟩:∃q,q=10*p+k:=⟨_,rfl⟩
   rw [←hq] at HR HS
   have d0:=(HL.o.cell (p:=⟨a,0,none⟩) hal).trans c0
   have d1:=(HL.o.cell (p:=⟨a,1,none⟩) hal).trans c1
   have hal':a<wr.heap.size:=Mw hal HL.o.size
   have HXQ:=Hz (And.intro hxs hq)
   clear hxs hq c0 c1
   go_wp2_with fail
   go_region_held3 (fun w'=>w'.cell? ⟨a,0,none⟩=some (.pointer (some ⟨g,0,none⟩)))
    (first
     | go_keep
     | (rw [hb1.cell (by simpa using hal')];assumption)
     | (rw [hb2.cell (by simpa using hal1)];assumption))
    ((first
      | (have hq:=HB1;clear hq;go_at_call 18;refine (HR.o _ HB1.o).mono ?_;rintro e w2 ⟨A,rfl,hown,hb2⟩;have HB2:=Hz hb2;have HOW:=Hz hown;clear hown)
      | (go_at_call 148;refine HS.o.mono ?_;rintro e w1 ⟨rfl,hb1⟩;have HB1:=Hz (show Bw w w1 from HL.o.trans ((((Mb wr.heap.size wr).drew).trans hb1).mono HL.o.size));have hal1:a<w1.heap.size:=Mw hal HB1.o.size)))
   have HG:=Hz (fun w' (h:Rd w' A 64 64 (u8n xs))=>RecN.qwj A 64 64 xs w' h HBX.o)
   have HCP:=Hz (show cp (p:Int) xs=if (getR xs).2≠0∨(getR xs).1.p≠p then Rc.none else (getR xs).1 from rfl)
   obtain⟨G,hG⟩:∃G,G=(getR xs).1:=⟨_,rfl⟩
   obtain⟨x,hx⟩:∃x,x=(getR xs).2:=⟨_,rfl⟩
   rw [←hG,←hx] at HG HCP
   clear hG hx
   obtain⟨gp,gq,ga,gc,gl,gb⟩:=G
   have T1:Bw wr w1:=((Mb wr.heap.size wr).drew).trans hb1
   have T2:=T1.trans (HB2.o.mono T1.size)
   have HT2:=Hz T2
   clear T1 T2 hb1 hb2 HB1 HB2 HR HS HRD
   go_wp2_with fail
   refine (HG.o w2 (Rd.own HOW.o)).mono ?_
   rintro e w3 ⟨rfl,hb3⟩
   have HT3:=Hz (HT2.o.trans (hb3.mono HT2.o.size))
   have e1:=(HT3.o.cell (p:=⟨a,1,none⟩) hal').trans d1
   have hal3:a<w3.heap.size:=Mw hal' HT3.o.size
   clear hb3 HT2 HOW d0 d1 HG
   have HB4:=Hz ((HB.o.below HT3.o).alloc (.cells (rcells ⟨gp,gq,ga,gc,gl,gb⟩).toArray 66))
   have HC4:=Hz ((HC.o.below HT3.o).alloc (.cells (rcells ⟨gp,gq,ga,gc,gl,gb⟩).toArray 66))
   have HL4:=Hz (HL.o.trans ((HT3.o.alloc HT3.o.size (.cells (rcells ⟨gp,gq,ga,gc,gl,gb⟩).toArray 66)).mono HL.o.size))
   have HY:=Hz (show (k=0→cp (p:Int) xs=c)∧(k=1→cp (p:Int) xs=d) from⟨fun h=>by rw [HCD.o.1,HX.o.1,HXQ.o.1,h];rfl,fun h=>by rw [HCD.o.2,HX.o.2,HXQ.o.1,h]⟩)
   by_cases hx:x=0
   ·subst hx
    by_cases hgp:gp=p
    ·subst hgp
     have HGC:=Hz (show cp (p:Int) xs=⟨p,gq,ga,gc,gl,gb⟩ from by rw [HCP.o,if_neg (by simp)])
     rw [HGC.o] at HY
     have HYS:=Hz (hcs_yes hlt HY.o.1 HY.o.2)
     rcases (show k=0∨k=1 by omega) with rfl|rfl
     ·go_wp2
      go_region
      go_wp2_with (refine Qk rfl 66 (.tmp 46) (.tmp 45) rfl (w.heap.size+1) 0 rfl (rcells ⟨p,gq,ga,gc,gl,gb⟩) rfl HC4.o (by rw [qvn];simp [rcells]) Jj (RecN.one_r _) ?_;intro w5 hB5 ho5)
      go_roundw
      case rel=>
       have hB6:=hB5.o
       have h6:=HYS.o
       have hn : ¬w.heap.size=w.heap.size+1:=by omega
       refine⟨1,by omega,by go_num,Hz (ho5.o.below HL4.o.drew (by omega) (HL4.o.drew).size),Hz (ho5.o.blk HB4.o hn),Hz ?_⟩
       rw [←h6]
       exact hB6
      case measure=>simp [intOf]
     ·go_wp2
      go_region
      go_wp2_with (refine Qk rfl 66 (.tmp 46) (.tmp 45) rfl (w.heap.size+1) 6 rfl (rcells ⟨p,gq,ga,gc,gl,gb⟩) rfl HC4.o (by rw [qvn];simp [rcells]) Jj (RecN.one_r _) ?_;intro w5 hB5 ho5)
      go_roundw
      case rel=>
       have hB6:=hB5.o
       have h6:=HYS.o
       have hn : ¬w.heap.size=w.heap.size+1:=by omega
       refine⟨2,by omega,by go_num,Hz (ho5.o.below HL4.o.drew (by omega) (HL4.o.drew).size),Hz (ho5.o.blk HB4.o hn),Hz ?_⟩
       rw [←h6]
       exact hB6
      case measure=>simp [intOf]
    ·have HNO:=Hz (hcs_none hlt HY.o.1 HY.o.2 (by rw [HCP.o,if_pos (.inr hgp)]))
     go_wp2
     go_region
     go_wp2
     go_roundw
     case rel=>exact⟨k+1,by omega,by go_num,Hz HL4.o.drew,Hz HB4.o,Hz (HNO.o▸HC4.o)⟩
     case measure=>simp [intOf];omega
   ·have HNO:=Hz (hcs_none hlt HY.o.1 HY.o.2 (by rw [HCP.o,if_pos (.inl hx)]))
    have hxb:(x==0)=false:=by simpa using hx
    go_wp2
    go_region
    go_wp2
    go_roundw
    case rel=>exact⟨k+1,by omega,by go_num,Hz HL4.o.drew,Hz HB4.o,Hz (HNO.o▸HC4.o)⟩
    case measure=>simp [intOf];omega
  ·obtain rfl:k=2:=by omega
   have HT:=Hz (show Blk wr (w.heap.size+1) 185 (rcells c++rcells d) from HC.o)
   clear HC
   go_wp2_with (first
    | (refine Qj rfl 185 _ rfl (w.heap.size+1) rfl HT.o Tryz.underlying185 rfl Yu ?_)
    | (refine Qq rfl 185 (.tmp 2) (.tmp 48) rfl w.heap.size rfl (rcells c++rcells d) rfl HB.o rfl Yu (one_two c d) ?_;intro w9 hB9 ho9))
   have e0:=hB9.o.cell (i:=0) rfl
   have e1:=hB9.o.cell (i:=1) rfl
   have e2:=hB9.o.cell (i:=2) rfl
   have e3:=hB9.o.cell (i:=3) rfl
   have e4:=hB9.o.cell (i:=4) rfl
   have e5:=hB9.o.cell (i:=5) rfl
   have e6:=hB9.o.cell (i:=6) rfl
   have e7:=hB9.o.cell (i:=7) rfl
   have e8:=hB9.o.cell (i:=8) rfl
   have e9:=hB9.o.cell (i:=9) rfl
   have ea:=hB9.o.cell (i:=10) rfl
   have eb:=hB9.o.cell (i:=11) rfl
   refine bodyPost_ret (v:=.tuple #[.agg (rcells c++rcells d).toArray,.int .i64 0]) (by simp [results,Tryz.results116,go_sem,rcells,e0,e1,e2,e3,e4,e5,e6,e7,e8,e9,ea,eb]) rfl ?_
   exact⟨rfl,ho9.o.below HL.o (Mr _) HL.o.size⟩
end
end CmtN
end Go.Proofs.YtpidbddllnidhaaGreatDoor
