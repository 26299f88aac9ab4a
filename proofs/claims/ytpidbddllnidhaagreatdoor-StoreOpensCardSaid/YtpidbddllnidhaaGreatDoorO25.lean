/- Parts of the proof, each under the conditions that it names. -/
import Derived.Test.YtpidbddllnidhaaGreatDoorO24
set_option maxRecDepth 100000
set_option maxHeartbeats 12800000
namespace Go.Proofs.YtpidbddllnidhaaGreatDoor
open Go.RowKit
namespace StoN
open Mem DskA StgM CmtM StoM
open StgN (Sm DS Sgo)
open CmtN (Lm LS Lgo)
open TabA (Tri Tris Ta)
def pflat (g:Nat) (la:Nat→Nat) (sa:Nat→Nat→Nat) (k:Nat):List Value:=(List.range k).flatMap fun p=>pcs g (la p) (sa p 0) (sa p 1)
theorem Vx (g:Nat) (la:Nat→Nat) (sa:Nat→Nat→Nat) (k:Nat):pflat g la sa (k+1)=pflat g la sa k++pcs g (la k) (sa k 0) (sa k 1):=by simp [pflat,List.range_succ]
theorem Nh (g:Nat) (la:Nat→Nat) (sa:Nat→Nat→Nat):∀k,(pflat g la sa k).length=k*4
 | 0=>rfl
 | k+1=>by rw [Vx,Ma,Nh g la sa k];show k*4+4=_;omega
theorem Kt {g:Nat} {la la':Nat→Nat} {sa sa':Nat→Nat→Nat}:∀{k:Nat},(∀p,p<k→la p=la' p∧sa p=sa' p)→pflat g la sa k=pflat g la' sa' k
 | 0,_=>rfl
 | k+1,h=>by rw [Vx,Vx,Kt fun p hp=>h p (by omega),(h k (by omega)).1,(h k (by omega)).2]
theorem Tu (g:Nat) (la:Nat→Nat) (sa:Nat→Nat→Nat) {p:Nat}:∀{k:Nat},p<k→((pflat g la sa k).drop (p*4)).take 4=pcs g (la p) (sa p 0) (sa p 1)
 | 0,h=>absurd h (by omega)
 | k+1,h=>by
   rw [Vx]
   have hl:=Nh g la sa k
   by_cases e:p=k
   ·subst e
    rw [List.drop_append_of_le_length (by omega),List.drop_of_length_le (by omega)]
    rfl
   ·have h1:=Tu g la sa (p:=p) (k:=k) (by omega)
    rw [List.drop_append_of_le_length (by omega),List.take_append_of_le_length (by rw [List.length_drop];omega)]
    exact h1
theorem Ku {w:World} {b b':Nat} {t e:TypeId} {xs:List Value} {cur:Array Value} (h:Blk w b t xs) (h':w.heap[b']?=some (.cells cur e (0,0))) (hne:t≠e):b≠b':=by
 intro he
 subst he
 unfold Blk at h
 rw [h] at h'
 injection h' with h'
 injection h' with _ h2 _
 exact hne h2
theorem own_cells {w:World} {base n b:Nat} {e:TypeId} {size:Nat} {v:Value} {xs:List Value} (h:w.ownsRow base e size v n xs) (hv:v.ownBlock=some b):base≤b∧∃cur,w.heap[b]?=some (.cells cur e (0,0)):=by
 rcases h.2 with⟨rfl,_⟩|⟨g',cap,cur,rfl,hb,hg,_⟩
 ·cases hv
 ·injection hv with hv
  have hv':g'=b:=hv
  subst hv'
  exact⟨hb,cur,hg⟩
theorem Lk.keep {w w1 w2:World} {t t':Ta} {G:Nat→Prop} (h:Lk w w1 t t') (k:Keep G w1 w2) (h1:0<t'.n1→∀b o,t'.A1=some ⟨b,o,none⟩→¬G b) (h2:0<t'.n2→∀b o,t'.A2=some ⟨b,o,none⟩→¬G b) (h3:0<t'.n3→∀b o,t'.A3=some ⟨b,o,none⟩→¬G b):Lk w w2 t t':=
 ⟨⟨Tris.keep h.ok.P k h1,Tris.keep h.ok.W k h2,Tris.keep h.ok.C k h3,h.ok.f0,h.ok.f1,h.ok.t0,h.ok.t1⟩,h.fr,h.tr,h.P,h.W,h.C,h.n1,h.n2,h.n3,h.o1,h.o2,h.o3⟩
structure Ol (w:World) (g z:Nat) (s:St) (t t':Ta) (A:Option Addr) (c k:Nat) (la:Nat→Nat) (sa:Nat→Nat→Nat) (wr:World):Prop where
 bel:Bw w wr
 tbx:Blk wr w.heap.size 26 t.cells
 zb:Blk wr z 74 (t'.cells++[.slice A k c])
 zlo:w.heap.size<z
 own:wr.ownsRow (z+1) 80 4 (.slice A k c) k (pflat g la sa k)
 lk:Lk w wr t t'
 t1:0<t'.n1→∀b o,t'.A1=some ⟨b,o,none⟩→b<z
 t2:0<t'.n2→∀b o,t'.A2=some ⟨b,o,none⟩→b<z
 t3:0<t'.n3→∀b o,t'.A3=some ⟨b,o,none⟩→b<z
 log:∀p,p<k→Lm wr (fun i=>i=la p) (la p) g (lO s p)
 slot:∀p,p<k→∀j,j≤1→Sm wr (fun i=>i=sa p j) (sa p j) g (pO s p j)
 ord:∀p,p<k→z<la p∧la p<sa p 0∧sa p 0<sa p 1∧∀q,q<p→sa q 1<la p
section
variable {w wr w':World} {g z c k:Nat} {s:St} {t t':Ta} {A:Option Addr} {la:Nat→Nat} {sa:Nat→Nat→Nat}
theorem Ol.step {A':Option Addr} {c' k':Nat} {G:Nat→Prop} (h:Ol w g z s t t' A c k la sa wr) (kp:Keep G wr w') (hG:∀b,G b→b=z∨(Value.slice A k c).ownBlock=some b)
 (hz:Blk w' z 74 (t'.cells++[.slice A' k' c'])) (ho:w'.ownsRow (z+1) 80 4 (.slice A' k' c') k' (pflat g la sa k')) (hk:k'=k):Ol w g z s t t' A' c' k' la sa w':=by
 subst hk
 have hz0:=h.zlo
 have hzl:=h.zb.lt
 have hlow:∀b,b<z→¬G b:=fun b hb hg=>by
  rcases hG b hg with e|e
  ·omega
  ·have:=(own_cells h.own e).1;omega
 have hrow:∀{b:Nat} {ty:TypeId} {xs:List Value},Blk wr b ty xs→z<b→ty≠80→¬G b:=fun hB hb hne hg=>by
  rcases hG _ hg with e|e
  ·omega
  ·obtain⟨_,cur,hc⟩:=own_cells h.own e
   exact Ku hB hc hne rfl
 have hbel:Bw w w':=⟨kp.os.trans h.bel.os,kp.tape.trans h.bel.tape,kp.output.trans h.bel.output,Ml h.bel.size kp.size,fun b hb=>(kp.block b (Mw hb h.bel.size) (hlow b (by omega))).trans (h.bel.block b hb)⟩
 refine⟨hbel,kp.blk h.tbx (hlow _ hz0),hz,hz0,ho,h.lk.keep kp (fun h0 b o e=>hlow b (h.t1 h0 b o e)) (fun h0 b o e=>hlow b (h.t2 h0 b o e)) (fun h0 b o e=>hlow b (h.t3 h0 b o e)),h.t1,h.t2,h.t3,fun p hp=>?_,fun p hp j hj=>?_,h.ord⟩
 ·have h1:=h.log p hp
  exact h1.keep kp fun i hi hg=>by rw [show i=la p from hi] at hg;exact hrow h1.blk (h.ord p hp).1 (by decide) hg
 ·have h1:=h.slot p hp j hj
  have h2:=h.ord p hp
  exact h1.keep kp fun i hi hg=>by
   rw [show i=sa p j from hi] at hg
   refine hrow h1.blk ?_ (by decide) hg
   rcases (show j=0∨j=1 from by omega) with rfl|rfl <;> omega
theorem Ol.below (h:Ol w g z s t t' A c k la sa wr) (hb:Bw wr w'):Ol w g z s t t' A c k la sa w':=
 h.step (Keep.of_below (F:=fun _=>False) hb) (fun _ hg=>hg.elim) (h.zb.below hb) ((Keep.of_below (F:=fun _=>False) hb).own h.own fun _ _ hg=>hg) rfl
theorem Ol.next {w2 wC w3:World} {a b0 b1 n3 c3:Nat} {A3:Option Addr} (h:Ol w g z s t t' A c k la sa wr) (hb:Bw wr w2) (hla:Lm w2 (fun i=>i=a) a g (lO s k)) (hs0:Sm w2 (fun i=>i=b0) b0 g (pO s k 0)) (hs1:Sm w2 (fun i=>i=b1) b1 g (pO s k 1))
 (hlo:wr.heap.size≤a∧a<b0∧b0<b1) (hC:Bw w2 wC) (hg:wC.grownBy w3 (Value.slice A k c).ownBlock) (hn3:n3=k+1) (ho:w3.ownsRow (z+1) 80 4 (.slice A3 n3 c3) n3 (pflat g la sa k++pcs g a b0 b1)) :
 Ol w g z s t t' A3 c3 (k+1) (upd la k a) (upd sa k (fun j=>if j=0 then b0 else b1)) (w3.setCell ⟨z,5,none⟩ (.slice A3 n3 c3)):=by
 subst hn3
 have hzl:=h.zb.lt
 have hsz:=hb.size
 have hlt:∀p,p<k→sa p 1<wr.heap.size:=fun p hp=>(h.slot p hp 1 (by omega)).blk.lt
 have hCw:=h.below (hb.trans (hC.mono hb.size))
 have hk3:Keep (fun b=>(Value.slice A k c).ownBlock=some b) wC w3:=Keep.grown hg fun b e=>e
 have hz3:Blk w3 z 74 (t'.cells++[.slice A k c]):=hk3.blk hCw.zb fun e=>by
  obtain⟨h1,_⟩:=own_cells hCw.own e
  omega
 have hk4:Keep (fun b=>b=z) w3 (w3.setCell ⟨z,5,none⟩ (.slice A3 (k+1) c3)):=Keep.set w3 5 _ rfl
 have hkk:Keep (fun b=>b=z∨(Value.slice A k c).ownBlock=some b) wC (w3.setCell ⟨z,5,none⟩ (.slice A3 (k+1) c3)):=(hk3.mono fun _ _ e=>.inr e).trans hk4 fun b e=>.inl (.inl e)
 have hz4:Blk (w3.setCell ⟨z,5,none⟩ (.slice A3 (k+1) c3)) z 74 (t'.cells++[.slice A3 (k+1) c3]):=hz3.set 5 _
 have ho4:(w3.setCell ⟨z,5,none⟩ (.slice A3 (k+1) c3)).ownsRow (z+1) 80 4 (.slice A3 (k+1) c3) (k+1) (pflat g la sa k++pcs g a b0 b1):=hk4.own ho fun b e1 e2=>by
  obtain⟨h1,_⟩:=own_cells ho e1
  have e3:b=z:=e2
  omega
 have el:∀p,p<k→la p=upd la k a p∧sa p=upd sa k (fun j=>if j=0 then b0 else b1) p:=fun p hp=>⟨(upd_ne _ _ (by omega)).symm,(upd_ne _ _ (by omega)).symm⟩
 have ha:upd la k a k=a:=Qw _ _ _
 have hs:upd sa k (fun j=>if j=0 then b0 else b1) k=fun j=>if j=0 then b0 else b1:=Qw _ _ _
 have hef:pflat g (upd la k a) (upd sa k (fun j=>if j=0 then b0 else b1)) (k+1)=pflat g la sa k++pcs g a b0 b1:=by
  rw [Vx,ha,hs,←Kt el]
  rfl
 have hlow:∀b,b<z→¬(b=z∨(Value.slice A k c).ownBlock=some b):=fun b hb' hg'=>by
  rcases hg' with e|e
  ·omega
  ·have:=(own_cells hCw.own e).1;omega
 have hrow:∀{b:Nat} {ty:TypeId} {xs:List Value},Blk wC b ty xs→z<b→ty≠80→¬(b=z∨(Value.slice A k c).ownBlock=some b):=fun hB hb' hne hg'=>by
  rcases hg' with e|e
  ·omega
  ·obtain⟨_,cur,hc⟩:=own_cells hCw.own e
   exact Ku hB hc hne rfl
 have hz0:=h.zlo
 have hbel:Bw w (w3.setCell ⟨z,5,none⟩ (.slice A3 (k+1) c3)):=⟨hkk.os.trans hCw.bel.os,hkk.tape.trans hCw.bel.tape,hkk.output.trans hCw.bel.output,Ml hCw.bel.size hkk.size,fun b hb'=>(hkk.block b (Mw hb' hCw.bel.size) (hlow b (by omega))).trans (hCw.bel.block b hb')⟩
 have hLa:=hla.below hC
 have hS0:=hs0.below hC
 have hS1:=hs1.below hC
 refine⟨hbel,hkk.blk hCw.tbx (hlow _ hz0),hz4,hz0,by rw [hef];exact ho4,hCw.lk.keep hkk (fun h0 b o e=>hlow b (h.t1 h0 b o e)) (fun h0 b o e=>hlow b (h.t2 h0 b o e)) (fun h0 b o e=>hlow b (h.t3 h0 b o e)),h.t1,h.t2,h.t3,fun p hp=>?_,fun p hp j hj=>?_,fun p hp=>?_⟩
 ·by_cases e:p=k
  ·subst e
   rw [ha]
   exact hLa.keep hkk fun i hi hg'=>by rw [show i=a from hi] at hg';exact hrow hLa.blk (by omega) (by decide) hg'
  ·rw [←(el p (by omega)).1]
   have h1:=hCw.log p (by omega)
   exact h1.keep hkk fun i hi hg'=>by rw [show i=la p from hi] at hg';exact hrow h1.blk (h.ord p (by omega)).1 (by decide) hg'
 ·by_cases e:p=k
  ·subst e
   rw [hs]
   rcases (show j=0∨j=1 from by omega) with rfl|rfl
   ·exact hS0.keep hkk fun i hi hg'=>by rw [show i=b0 from hi] at hg';exact hrow hS0.blk (by omega) (by decide) hg'
   ·exact hS1.keep hkk fun i hi hg'=>by rw [show i=b1 from hi] at hg';exact hrow hS1.blk (by omega) (by decide) hg'
  ·rw [←(el p (by omega)).2]
   have h1:=hCw.slot p (by omega) j hj
   have h2:=h.ord p (by omega)
   exact h1.keep hkk fun i hi hg'=>by
    rw [show i=sa p j from hi] at hg'
    refine hrow h1.blk ?_ (by decide) hg'
    rcases (show j=0∨j=1 from by omega) with rfl|rfl <;> omega
 ·by_cases e:p=k
  ·subst e
   rw [ha,hs]
   refine⟨by omega,hlo.2.1,hlo.2.2,fun q hq=>?_⟩
   rw [←(el q hq).2]
   have:=hlt q hq
   omega
  ·rw [←(el p (by omega)).1,←(el p (by omega)).2]
   have h1:=h.ord p (by omega)
   exact⟨h1.1,h1.2.1,h1.2.2.1,fun q hq=>by rw [←(el q (by omega)).2];exact h1.2.2.2 q hq⟩
end
open Classical in
noncomputable def zf (z pb n:Nat) (la:Nat→Nat) (sa:Nat→Nat→Nat) (T:Nat→Prop) (i:Nat):Zl:=
 if i=z then .head else if i=pb then .list else if h:∃p,p<n∧la p=i then .log h.choose
 else if h:∃pk:Nat×Nat,pk.1<n∧pk.2≤1∧sa pk.1 pk.2=i then .slot h.choose.1 h.choose.2 else if T i then .tab else .out
section
variable {w wr:World} {g z c n:Nat} {s:St} {t t':Ta} {A:Option Addr} {la:Nat→Nat} {sa:Nat→Nat→Nat}
theorem Ol.rise (h:Ol w g z s t t' A c n la sa wr):∀p,p<n→∀q,q<n→∀j,j≤1→(la p=la q→p=q)∧la p≠sa q j∧∀i,i≤1→sa p i=sa q j→p=q∧i=j:=by
 intro p hp q hq j hj
 have hp1:=h.ord p hp
 have hq1:=h.ord q hq
 have hpq:q<p→sa q 1<la p:=fun hh=>hp1.2.2.2 q hh
 have hqp:p<q→sa p 1<la q:=fun hh=>hq1.2.2.2 p hh
 have hj1:sa q j=sa q 0∧j=0∨sa q j=sa q 1∧j=1:=by
  rcases (show j=0∨j=1 from by omega) with rfl|rfl
  ·exact .inl ⟨rfl,rfl⟩
  ·exact .inr ⟨rfl,rfl⟩
 rcases Nat.lt_trichotomy p q with hh|hh|hh
 ·have:=hqp hh
  refine⟨fun e=>(by omega),by omega,fun i hi e=>?_⟩
  have hi1:sa p i=sa p 0∨sa p i=sa p 1:=by
   rcases (show i=0∨i=1 from by omega) with rfl|rfl
   ·exact .inl rfl
   ·exact .inr rfl
  omega
 ·subst hh
  refine⟨fun _=>rfl,by omega,fun i hi e=>⟨rfl,?_⟩⟩
  have hi1:sa p i=sa p 0∧i=0∨sa p i=sa p 1∧i=1:=by
   rcases (show i=0∨i=1 from by omega) with rfl|rfl
   ·exact .inl ⟨rfl,rfl⟩
   ·exact .inr ⟨rfl,rfl⟩
  omega
 ·have:=hpq hh
  refine⟨fun e=>(by omega),by omega,fun i hi e=>?_⟩
  have hi1:sa p i=sa p 0∨sa p i=sa p 1:=by
   rcases (show i=0∨i=1 from by omega) with rfl|rfl
   ·exact .inl rfl
   ·exact .inr rfl
  omega
theorem Ol.zm (h:Ol w g z s t t' A c n la sa wr) (hn:n=t'.n1∧0<n∧n≤4):∃ζ Z,Z.z=z∧Zm wr ζ g t' n (opn s) Z∧∀i,ζ i≠.out→w.heap.size≤i:=by
 obtain⟨pb,cap,cur,hv,hpb,hheap,hnc,hcm,hcs,htk⟩:∃pb cap cur,Value.slice A n c=.slice (some ⟨pb,0,none⟩) n cap∧z+1≤pb∧wr.heap[pb]?=some (.cells cur 80 (0,0))∧n≤cap∧cap≤maxLen∧cur.size=cap*4∧cur.toList.take (n*4)=pflat g la sa n:=by
  rcases h.own.2 with⟨e,h0⟩|h1
  ·omega
  ·exact h1
 have hA:A=some ⟨pb,0,none⟩:=by injection hv
 have hc:c=cap:=by injection hv
 subst hA hc
 obtain⟨T,hT⟩:∃T:Nat→Prop,T=fun i=>(0<t'.n1∧∃o,t'.A1=some ⟨i,o,none⟩)∨(0<t'.n2∧∃o,t'.A2=some ⟨i,o,none⟩)∨(0<t'.n3∧∃o,t'.A3=some ⟨i,o,none⟩):=⟨_,rfl⟩
 have hTz:∀i,T i→i<z∧w.heap.size≤i:=fun i hi=>by
  rw [hT] at hi
  rcases hi with⟨h0,o,e⟩|⟨h0,o,e⟩|⟨h0,o,e⟩
  ·exact⟨h.t1 h0 i o e,h.lk.o1 h0 i o e⟩
  ·exact⟨h.t2 h0 i o e,h.lk.o2 h0 i o e⟩
  ·exact⟨h.t3 h0 i o e,h.lk.o3 h0 i o e⟩
 have hr:=h.rise
 have hzl:=h.zlo
 have hL:Blk wr pb 80 cur.toList:=by unfold Blk;rw [hheap]
 have lne:∀p,p<n→la p≠z∧la p≠pb:=fun p hp=>⟨by have:=(h.ord p hp).1;omega,Ku (h.log p hp).blk hheap (by decide)⟩
 have sne:∀p,p<n→∀j,j≤1→sa p j≠z∧sa p j≠pb:=fun p hp j hj=>⟨by
  have:=h.ord p hp
  rcases (show j=0∨j=1 from by omega) with rfl|rfl <;> omega,Ku (h.slot p hp j hj).blk hheap (by decide)⟩
 have rz:zf z pb n la sa T z=.head:=by unfold zf;rw [if_pos rfl]
 have rb:zf z pb n la sa T pb=.list:=by unfold zf;rw [if_neg (by omega),if_pos rfl]
 have rl:∀p,p<n→zf z pb n la sa T (la p)=.log p:=fun p hp=>by
  have hex:∃q,q<n∧la q=la p:=⟨p,hp,rfl⟩
  unfold zf
  rw [if_neg (lne p hp).1,if_neg (lne p hp).2,dif_pos hex]
  have h2:=hex.choose_spec
  rw [(hr _ h2.1 p hp 0 (by omega)).1 h2.2]
 have rs:∀p,p<n→∀j,j≤1→zf z pb n la sa T (sa p j)=.slot p j:=fun p hp j hj=>by
  have hno : ¬∃q,q<n∧la q=sa p j:=fun⟨q,hq,e⟩=>(hr q hq p hp j hj).2.1 e
  have hex:∃pk:Nat×Nat,pk.1<n∧pk.2≤1∧sa pk.1 pk.2=sa p j:=⟨(p,j),hp,hj,rfl⟩
  unfold zf
  rw [if_neg (sne p hp j hj).1,if_neg (sne p hp j hj).2,dif_neg hno,dif_pos hex]
  have h2:=hex.choose_spec
  have h3:=(hr _ h2.1 p hp j hj).2.2 _ h2.2.1 h2.2.2
  rw [h3.1,h3.2]
 have rt:∀i,T i→zf z pb n la sa T i=.tab:=fun i hi=>by
  have h1:=(hTz i hi).1
  unfold zf
  rw [if_neg (by omega),if_neg (by omega),dif_neg (fun⟨q,hq,e⟩=>by have:=(h.ord q hq).1;omega),dif_neg (fun⟨pk,hq,hj,e⟩=>by
   have:=h.ord pk.1 hq
   rcases (show pk.2=0∨pk.2=1 from by omega) with e2|e2 <;> rw [e2] at e <;> omega),if_pos hi]
 have cases_:∀i,zf z pb n la sa T i≠.out→i=z∨i=pb∨(∃p,p<n∧la p=i)∨(∃pk:Nat×Nat,pk.1<n∧pk.2≤1∧sa pk.1 pk.2=i)∨T i:=fun i hi=>by
  unfold zf at hi
  by_cases e1:i=z
  ·exact .inl e1
  by_cases e2:i=pb
  ·exact .inr (.inl e2)
  by_cases e3:∃p,p<n∧la p=i
  ·exact .inr (.inr (.inl e3))
  by_cases e4:∃pk:Nat×Nat,pk.1<n∧pk.2≤1∧sa pk.1 pk.2=i
  ·exact .inr (.inr (.inr (.inl e4)))
  by_cases e5:T i
  ·exact .inr (.inr (.inr (.inr e5)))
  ·rw [if_neg e1,if_neg e2,dif_neg e3,dif_neg e4,if_neg e5] at hi
   exact absurd rfl hi
 refine⟨zf z pb n la sa T,⟨z,pb,c,cur.toList,la,sa⟩,rfl,⟨h.zb,h.lk.ok,⟨fun h0 q o e=>rt q ?_,fun h0 q o e=>rt q ?_,fun h0 q o e=>rt q ?_⟩,⟨hn.1,hn.2.2,hnc,by unfold maxLen at hcm;omega⟩,hL,fun p hp=>⟨?_,?_⟩,h.log,h.slot,rz,rb,rl,rs,fun i hi=>?_⟩,fun i hi=>?_⟩
 ·rw [hT];exact .inl ⟨h0,o,e⟩
 ·rw [hT];exact .inr (.inl ⟨h0,o,e⟩)
 ·rw [hT];exact .inr (.inr ⟨h0,o,e⟩)
 ·show p*4+4≤cur.toList.length
  rw [Array.length_toList,hcs]
  omega
 ·show (cur.toList.drop (p*4)).take 4=_
  rw [←Tu g la sa hp,←htk,List.drop_take,List.take_take,Nat.min_eq_left (by omega)]
 ·rcases cases_ i hi with e|e|⟨p,hp,e⟩|⟨pk,hp,hj,e⟩|e
  ·rw [e];exact h.zb.lt
  ·rw [e];exact hL.lt
  ·rw [←e];exact (h.log p hp).blk.lt
  ·rw [←e];exact (h.slot pk.1 hp pk.2 hj).blk.lt
  ·have:=(hTz i e).1;have:=h.zb.lt;omega
 ·rcases cases_ i hi with e|e|⟨p,hp,e⟩|⟨pk,hp,hj,e⟩|e
  ·omega
  ·omega
  ·have:=(h.ord p hp).1;omega
  ·have:=h.ord pk.1 hp
   rcases (show pk.2=0∨pk.2=1 from by omega) with e2|e2 <;> rw [e2] at e <;> omega
  ·exact (hTz i e).2
end
end StoN
namespace StoT
open ImgT
open TabA (Ta)
open ImgA (Im)
open CpaM (Tri3 tri3 chk)
open ShaM (by256)
def imo (g:Ig) (A:Option Addr) (n c:Nat):Im:=⟨g.p,g.v,g.h,g.m,g.f,g.s,g.r,A,n,c,g.xs⟩
theorem tri_at {br bi bx:Bool} {t:Ta} {p:Int} {g:Ig} {A:Option Addr} {n c:Nat} (h:Tri3 br bi bx t p (imo g none g.xs.length 0)) (hn:g.xs.length=n):Tri3 br bi bx t p (imo g A n c):=by
 subst hn
 exact⟨h.rt,h.ri,h.rx⟩
theorem chk_8 (br bi bx:Bool) (t:Ta) (p:Int) (i:Im) (v:Int):chk br bi bx t p i v≠8:=by
 unfold chk
 repeat' split
 all_goals omega
theorem chk_0 {br bi bx:Bool} {t:Ta} {p:Int} {i:Im} {v:Int} (hv:0≤v) (h:chk br bi bx t p i v=0):chk br bi bx t p i 0=0:=by
 unfold chk at h ⊢
 repeat' split at h
 all_goals first
  | (exfalso;omega)
  | skip
 rename_i h1 h2 h3 h4 h5 h6
 rw [if_neg h1,if_neg h2,if_neg h3,if_neg h4,if_neg h5,if_neg (by omega)]
end StoT
namespace StoCk
open Kit Byt ImgT StoT
open TabA (Ta)
open ImgA (Im)
open CpaM (Tri3 tri3 chk PortBad)
open ShaM (by256)
open StoN (Lk)
open CpaN (n64)
open Classical in
noncomputable def br (t:Ta):Bool:=decide (TabD.right t)
open Classical in
noncomputable def bi (g:Ig):Bool:=decide (ImgB.right (imo g none g.xs.length 0))
open Classical in
noncomputable def bx (t:Ta) (p:Nat) (g:Ig):Bool:=decide (PortBad t p (imo g none g.xs.length 0))
noncomputable def ck (t:Ta) (p:Nat) (g:Ig) (v:Int):Int:=chk (br t) (bi g) (bx t p g) t p (imo g none g.xs.length 0) v
theorem tri_ck (t:Ta) (p:Nat) (g:Ig):Tri3 (br t) (bi g) (bx t p g) t p (imo g none g.xs.length 0):=⟨by unfold br;simp,by unfold bi;simp,by unfold bx;simp⟩
theorem ck_8 (t:Ta) (p:Nat) (g:Ig) (v:Int):ck t p g v≠8:=chk_8 _ _ _ _ _ _ _
theorem ck_0 {t:Ta} {p:Nat} {g:Ig} {v:Int} (hv:0≤v) (h:ck t p g v=0):ck t p g 0=0:=chk_0 hv h
theorem qqw {t:Ta} {w:World} (ht:t.ok w) (p:Nat) (hp:p≤1000) (g:Ig) (v:Int) (hv:n64 v) (A:Option Addr) (m c:Nat) (hR:Rd w A m c (u8n g.xs)) (hx:by256 g.xs) :
 Calls Tryz.prog 28 #[t.val,.int .i64 (p:Nat),.agg #[.int .i64 g.p,.int .i64 g.v,.int .i64 g.h,.int .i64 g.m,.int .i64 g.f,.int .i64 g.s,.int .i64 g.r,.slice A m c],.int .i64 v] w fun e w'=>e=.returned (.int .i64 (ck t p g v))∧Bw w w':=
 (CpaN.Nn t p v (imo g A m c) w ht ⟨hR,hx⟩ ⟨by omega,by omega⟩ hv _ _ _ (tri_at (tri_ck t p g) (Rd.nats hR))).mono fun _ _ hh=>hh
open Classical in
theorem fits_ck {t:Ta} {w:World} (ht:t.ok w) (p:Nat) (hp:p≤1000) (g:Ig) (A:Option Addr) (m c:Nat) (hR:Rd w A m c (u8n g.xs)) (hx:by256 g.xs) (b:Bool) (hb:b=true↔ck t p g 0=0) :
 Calls Tryz.prog 71 #[t.val,.int .i64 (p:Nat),.agg #[.int .i64 g.p,.int .i64 g.v,.int .i64 g.h,.int .i64 g.m,.int .i64 g.f,.int .i64 g.s,.int .i64 g.r,.slice A m c]] w fun e w'=>e=.returned (.bool b)∧Bw w w':=
 (CpaN.fits_any t p (imo g A m c) w ht ⟨hR,hx⟩ ⟨by omega,by omega⟩ _ _ _ (tri_at (tri_ck t p g) (Rd.nats hR))).mono fun _ _ hh=>⟨by
   rw [hh.1]
   exact Q3 (by
    rw [Bool.eq_iff_iff,hb]
    exact decide_eq_true_iff),hh.2⟩
theorem ck_like {t t':Ta} (h1:t'.fr=t.fr) (h2:t'.tr=t.tr) (h3:t'.P=t.P) (h4:t'.W=t.W) (h5:t'.C=t.C) (h6:t'.n1=t.n1):ck t'=ck t:=by
 obtain⟨fr,A1,n1,c1,P,A2,n2,c2,W,A3,n3,c3,C,tr⟩:=t
 obtain⟨fr',A1',n1',c1',P',A2',n2',c2',W',A3',n3',c3',C',tr'⟩:=t'
 simp only at h1 h2 h3 h4 h5 h6
 subst h1 h2 h3 h4 h5 h6
 rfl
end StoCk
namespace StoN
open DskA DskD RecM StgM CmtM
open StgN (Sm DS Sgo)
open CmtN (Lm LS Lgo)
open TabA (Tri Tris Ta)
open ImgT (Ig iG rdI q8_lt)
open ShaM (by256)
open ShaE (Tab)
open StoCk (ck)
open RecA (rval rcells rok sval scells sok)
theorem by_take {xs:List Nat} (h:by256 xs) (n:Nat):by256 (xs.take n):=fun c hc=>h c (List.mem_of_mem_take hc)
theorem by_drop {xs:List Nat} (h:by256 xs) (n:Nat):by256 (xs.drop n):=fun c hc=>h c (List.mem_of_mem_drop hc)
theorem by_app {xs ys:List Nat} (h:by256 xs) (h':by256 ys):by256 (xs++ys):=fun c hc=>(List.mem_append.1 hc).elim (h c) (h' c)
theorem iG_by {ys:List Nat} (h:by256 ys):by256 (iG ys).xs:=by
 unfold iG
 repeat' split
 all_goals first
  | exact fun c hc=>absurd hc List.not_mem_nil
  | exact q8_lt (by_drop (by_take h _) 2)
theorem pY_by {s:St} (hY:Put2.Byts s) (t:Slt) (hg:t.has=true→t.g.right):by256 (pY s t).1∧(pY s t).1.length≤1000:=by
 unfold pY
 by_cases h1:t.has=false
 ·rw [if_pos h1];exact⟨fun c hc=>(by cases hc),Nat.zero_le _⟩
 rw [if_neg h1]
 by_cases h2:BitA.miss t.g.h (blocks t.g.z)≠[]
 ·rw [if_pos h2];exact⟨fun c hc=>(by cases hc),Nat.zero_le _⟩
 rw [if_neg h2]
 by_cases h3:s.down=true
 ·rw [if_pos h3];exact⟨fun c hc=>(by cases hc),Nat.zero_le _⟩
 rw [if_neg h3]
 have hn:∀i,by256 (now s i):=fun i=>Put2.Vt hY i
 refine⟨by_take (by_app (hn _) (by_app (hn _) (hn _))) _,?_⟩
 have hr:=hg (by simpa using h1)
 rw [Mk_]
 have:=hr.2.1.2
 omega
theorem kim_by {s:St} (hY:Put2.Byts s) (t:Slt) (hg:t.has=true→t.g.right):by256 (kim s t).xs:=by
 unfold kim
 split
 ·exact iG_by (pY_by hY t hg).1
 ·exact fun c hc=>by cases hc
theorem pO_right (s:St) (p k:Nat):(pO s p k).has=true→(pO s p k).g.right:=fun h=>StgN.getS_right (of_decide_eq_true h)
theorem qqx {s:St} {p:Nat} (h:1≤(lO s p).r.q):(lO s p).r.right∧(lO s p).r.p=p:=by
 have e:(lO s p).r=(late p (now s (10*p)) (now s (10*p+1))).1:=rfl
 rw [e] at h ⊢
 unfold late at h ⊢
 split at h <;> rename_i hh
 ·rw [if_pos hh];exact⟨cp_right h,(cp_get h).2⟩
 ·rw [if_neg hh];exact⟨cp_right h,(cp_get h).2⟩
def Hb (s:St) (t:Ta) (p:Nat) (u:Slt) (b:Bool):Prop:=b=true↔(kim s u).e=0∧ck t p (kim s u) 0=0
open Classical in
theorem hb_ex (s:St) (t:Ta) (p:Nat) (u:Slt):∃b,Hb s t p u b:=⟨decide ((kim s u).e=0∧ck t p (kim s u) 0=0),by unfold Hb;simp⟩
section
variable {w:World} {F J:Nat→Prop} {g la s0 s1 a:Nat} {s:St} {t:Ta} {u:Slt} {l:Lg}
theorem img_at (h:DS w F J g a s u) (hT:Tab w) (hg:u.has=true→u.g.right) (hY:Put2.Byts s) (k:Nat) (hk:k=0∧a=s0∨k=1∧a=s1):Img w s0 s1 (k:Nat) (kim s u):=fun w' hb=>
 image_any ⟨h.dk.below hb,h.sm.below hb,h.dis,h.most,h.fits⟩ (hT.below hb hT.1) hg (pY_by hY u hg).1 (pY_by hY u hg).2 s0 s1 k hk
theorem lat_at {J:Nat→Prop} (h:Lm w J la g l) (r0 r1 r2 r3 r4 r5:Int) (hr:l.r=⟨r0,r1,r2,r3,r4,r5⟩):Lat w la r0 r1 r2 r3 r4 r5:=fun w' hb=>by
 have h1:=CmtN.Uk J g la l w' (h.below hb)
 rw [hr] at h1
 exact h1
theorem qqy {J':Nat→Prop} (h:DS w F J g a s u) (hl:Lm w J' la g l) (hT:Tab w) (hg:u.has=true→u.g.right) (hY:Put2.Byts s) (k p:Nat) (hk:k=0∧a=s0∨k=1∧a=s1) (hp:p≤1000) (hlp:l.r.p=p) (ht:t.ok w) (b:Bool) (hb:Hb s t p u b) :
 Calls Tryz.prog 33 #[pval g la s0 s1,t.val,.int .i64 (k:Nat)] w fun e w'=>e=.returned (.bool b)∧Bw w w':=by
 have hi:=img_at h hT hg hY k hk
 by_cases he:(kim s u).e=0
 ·obtain⟨r,hr⟩:∃r,r=l.r:=⟨_,rfl⟩
  obtain⟨r0,r1,r2,r3,r4,r5⟩:=r
  obtain rfl:r0=(p:Nat):=by rw [←hr] at hlp;exact hlp
  exact qvw (k:Nat) (kim s u) hi he (p:Nat) r1 r2 r3 r4 r5 b (lat_at hl _ _ _ _ _ _ hr.symm) fun w' hw B m c hR=>StoCk.fits_ck (ht.below hw) p hp (kim s u) B m c hR (kim_by hY u hg) b ⟨fun x=>(hb.1 x).2,fun x=>hb.2 ⟨he,x⟩⟩
 ·have hf:b=false:=by
   rw [Bool.eq_false_iff]
   intro e
   exact he (hb.1 e).1
  rw [hf]
  exact qwz (k:Nat) (kim s u) hi he
end
end StoN
end Go.Proofs.YtpidbddllnidhaaGreatDoor
