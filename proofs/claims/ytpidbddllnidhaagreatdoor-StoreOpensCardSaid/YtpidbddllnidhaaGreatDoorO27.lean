/- Parts of the proof, each under the conditions that it names. -/
import Derived.Test.YtpidbddllnidhaaGreatDoorO26
import Derived.Stop.RegionWithIn
import Derived.RangeFuncCalls
set_option maxRecDepth 100000
set_option maxHeartbeats 12800000
namespace Go.Proofs.YtpidbddllnidhaaGreatDoor
open Go.RowKit
namespace StoN
open Mem DskA CmtM
open StgN (Sm DS Sgo)
open CmtN (Lm LS Lgo)
open TabA (Tri Tris Ta)
open ShaE (Tab)
open StoCk (ck)
open StoV (sl)
section
variable {w:World} {F:Nat→Prop} {g:Nat} {s:St} {t:Ta}
theorem qju (hD:Dk w F g s) (ht:t.ok w) (hr:TabD.right t) (hlen:10*t.n1≤s.S.length) (hu:s.down=false) (hL:s.L.length≤1000000) (hY:Put2.Byts s) (hq:(lO s 0).r.q<1) :
 Calls Tryz.prog 7 #[.pointer (some ⟨g,0,none⟩),t.val] w fun e w'=>e=.returned (.tuple #[.pointer none,.int .i64 5])∧Bw w w':=by
 have hn4:2≤t.n1∧t.n1≤4:=by have h1:=ht.P.1;have h2:=hr.2.2.1.1;omega
 have hsm:t.n1≤1000000∧t.n2≤1000000∧t.n3≤1000000:=by
  have h1:=ht.W.1;have h2:=hr.2.2.2.1.1;have h3:=ht.C.1;have h4:=hr.2.2.2.2.1
  omega
 have HRM:=Hz (fun w' (hb':Bw w w')=>(show Calls Tryz.prog 27 #[.pointer (some ⟨g,0,none⟩),t.val] w' fun e w''=>e=.returned (.int .i64 0)∧Bw w' w'' from Ht (hD.below hb') (ht.below hb') hr false ⟨fun h=>(by cases h),fun h=>(by omega)⟩))
 have HCP:=Hz (fun w' (hb':Bw w w')=>Kg t w' (ht.below hb') hsm)
 have HPO:=Hz (fun w' (hb':Bw w w')=>(show Calls Tryz.prog 31 #[.pointer (some ⟨g,0,none⟩),.int .i64 0] w' fun e w''=>e=.returned (.tuple #[pzero,.int .i64 5])∧Bw w' w'' from (popen_any (hD.below hb') (p:=0) (by omega) (by omega) hu hL hY).mono fun e w'' h=>by
  rcases h with⟨h,_⟩|⟨_,h⟩
  ·omega
  ·exact h))
 obtain⟨n,hn⟩:∃n,n=t.n1:=⟨_,rfl⟩
 have HN:=Hz hn
 have hn2:2≤n:=by omega
 clear hD ht hr hlen hu hL hY hq hn4 hsm hn
 have L0:=Hz (show Bw w (w.alloc (.cells #[.int .i64 t.fr,.slice t.A1 t.n1 t.c1,.slice t.A2 t.n2 t.c2,.slice t.A3 t.n3 t.c3,.int .i64 t.tr] 26)) from (Mb _ _).alloc (Mr _) _)
 have T0:=Hz (show Blk (w.alloc (.cells #[.int .i64 t.fr,.slice t.A1 t.n1 t.c1,.slice t.A2 t.n2 t.c2,.slice t.A3 t.n3 t.c3,.int .i64 t.tr] 26)) w.heap.size 26 t.cells from Blk.new w _ _)
 show Calls _ _ #[_,.agg #[.int .i64 t.fr,.slice t.A1 t.n1 t.c1,.slice t.A2 t.n2 t.c2,.slice t.A3 t.n3 t.c3,.int .i64 t.tr]] w _
 go_enter Tryz.func7,Tryz.ntmps7
 go_wp2_with (first
  | (go_at_call 27;refine (HRM.o _ L0.o).mono ?_;rintro e w1 ⟨rfl,hb1⟩;have L1:=Hz (L0.o.trans (hb1.mono L0.o.size));have T1:=Hz (T0.o.below hb1);clear hb1)
  | (refine Qj rfl 26 (.tmp 3) rfl w.heap.size rfl (show Blk _ w.heap.size 26 [.int .i64 t.fr,.slice t.A1 t.n1 t.c1,.slice t.A2 t.n2 t.c2,.slice t.A3 t.n3 t.c3,.int .i64 t.tr] from T1.o) Tryz.underlying26 rfl Jy ?_)
  | (go_at_call 30;refine (HCP.o _ L1.o).mono ?_;rintro e w2 ⟨t',rfl,hlk2,hb2⟩;obtain⟨fr',A1',n1',c1',TP',A2',n2',c2',TW',A3',n3',c3',TC',tr'⟩:=t';have L2:=Hz (L1.o.trans (hb2.mono L1.o.size));have T2:=Hz (T1.o.below hb2);have T2b:=Hz (T2.o.alloc (.cells #[.int .i64 fr',.slice A1' n1' c1',.slice A2' n2' c2',.slice A3' n3' c3',.int .i64 tr',.slice none 0 0] 74));have b1:=T2b.o.cell (i:=1) rfl;have LK2:=Hz hlk2;have D2:=Hz L1.o.size;clear hb2 hlk2))
 obtain⟨wz,hwz⟩:∃wz,wz=w2.alloc (.cells #[.int .i64 fr',.slice A1' n1' c1',.slice A2' n2' c2',.slice A3' n3' c3',.int .i64 tr',.slice none 0 0] 74):=⟨_,rfl⟩
 have LZ:=Hz (show Bw w wz from by rw [hwz];exact L2.o.alloc L2.o.size _)
 rw [←hwz]
 clear hwz b1 LK2 D2 T2 T1 L1 T2b T0 L0
 rw [←HN.o]
 go_loopw [27] (fun i wr=>i=.int .i64 0∧Hid (Bw w wr)) (fun _ _=>0)
 case atStart=>exact⟨rfl,LZ⟩
 case round=>
  obtain⟨rfl,HW⟩:=hrel
  have hnz:(0:Int)<n:=by omega
  go_wp2_with (go_at_call 31;refine (HPO.o wr HW.o).mono ?_;rintro e w3 ⟨rfl,hb3⟩;have L3:=Hz (HW.o.trans (hb3.mono HW.o.size));clear hb3)
  go_ret2
  exact⟨rfl,L3.o.alloc L3.o.size _⟩
end
end StoN
namespace StoN
open Mem DskA RecM StgM StgQ CmtM StoM StoW
open StgN (Sm DS Sgo)
open CmtN (Lm LS Lgo)
open TabA (Tri Tris Ta)
open RecA (rval rcells rok sval scells sok n64)
open TabB (Yes)
structure Au (n:Nat) (s:St) (P:Nat→Pt) (O:Nat→Ow):Prop where
 ok:∀p,p<n→Okw p (O p)
 pt:∀p,p<n→PtOk p (P p) (O p)
 byts:Put2.Byts s
 up:s.down=false→SU s n P O
section
variable {w:World} {F:Nat→Prop} {ζ:Nat→Zl} {g n p:Nat} {s:St} {t:Ta} {P:Nat→Pt} {Z:Lo} {O:Nat→Ow}
theorem Au.rc (a:Au n s P O) (hp:p<n):(P p).l.r.right∧(P p).l.r.p=p∧(P p).l.p=p∧(P p).l.i≤1:=by
 have h:=a.pt p hp
 exact⟨by rw [h.lr];exact (a.ok p hp).right,by rw [h.lr];exact (a.ok p hp).pp,h.lp,h.i1⟩
theorem Au.hc (a:Au n s P O) (hp:p<n):(0≤(P p).l.r.a∧(P p).l.r.a≤1)∧(0≤(P p).l.r.c∧(P p).l.r.c≤1):=⟨(a.rc hp).1.1.2.2.1,(a.rc hp).1.1.2.2.2⟩
theorem Au.lo (a:Au n s P O) (hu:s.down=false) (hp:p<n):lO s p=(P p).l:=by
 have h:=a.up hu
 have hpt:=a.pt p hp
 have hl:=lO_of h.up.none_ (h.cr p hp).tell
 rw [hl]
 have h1:=hpt.lp
 have h2:=hpt.lr
 generalize (P p).l=l at h1 h2 ⊢
 obtain⟨lp,lr,li⟩:=l
 simp only at h1 h2 ⊢
 rw [h1,h2]
theorem Au.po (a:Au n s P O) (hu:s.down=false) (hp:p<n) {k:Nat} (hk:k≤1):pO s p k=(P p).t k:=by
 have h:=a.up hu
 have hpt:=a.pt p hp
 have h1:=N8 (t:=pl p k ((O p).x k)) h.up.none_ ((h.cr p hp).slot k hk) ((a.ok p hp).wf k hk)
 rw [hpt.t k hk]
 exact qzi rfl rfl h1.1 h1.2
theorem Au.right (a:Au n s P O) (hp:p<n) {k:Nat} (hk:k≤1):((P p).t k).has=true→((P p).t k).g.right:=fun e=>by
 have h:=(a.pt p hp).t k hk
 rw [h] at e ⊢
 exact ((a.ok p hp).wf k hk).right e
theorem ksp_le (Q:Pt):ksp Q≤1:=by unfold ksp;split <;> omega
theorem rok_of {r:Rc} (h:r.right):rok r:=CmtN.Nk h
theorem ats_yes (h:DZ w F ζ g s t n P Z) (hp:p<n):Ats w (.pointer (some ⟨Z.z,0,none⟩)) (p:Nat) (fun w'=>Is w' g (Z.la p) (Z.sa p 0) (Z.sa p 1)):=fun _ hb=>at_yes (h.zm.below hb) hp
theorem ats_no (h:DZ w F ζ g s t n P Z) (q:Int) (hq:q<0∨(n:Int)≤q):Ats w (.pointer (some ⟨Z.z,0,none⟩)) q (fun w'=>No w' 3):=fun _ hb=>at_no (h.zm.below hb) q hq
theorem trs_at (h:DZ w F ζ g s t n P Z) (hp:p<n) (b:Bool) (hb:b=true↔(P p).l.r.a≠(P p).l.r.c):Trs w g (Z.la p) (Z.sa p 0) (Z.sa p 1) b:=fun _ hw=>qvo ((h.zm.below hw).log p hp) b hb _ _ _
theorem ldd_at (h:DZ w F ζ g s t n P Z) (hp:p<n) (hc:0≤(P p).l.r.c∧(P p).l.r.c≤1):Ldd w g (Z.la p) (Z.sa p 0) (Z.sa p 1) (Z.sa p (ksp (P p))):=fun _ hw=>
 qjn ((h.zm.below hw).log p hp) hc _ _ _ _ (by unfold ksp;split <;> rfl)
theorem lat_of (h:DZ w F ζ g s t n P Z) (hp:p<n) (r0 r1 r2 r3 r4 r5:Int) (hr:(P p).l.r=⟨r0,r1,r2,r3,r4,r5⟩):Lat w (Z.la p) r0 r1 r2 r3 r4 r5:=lat_at (h.zm.log p hp) _ _ _ _ _ _ hr
theorem qqz (h:DZ w F ζ g s t n P Z) (hp:p<n) {k:Nat} (hk:k≤1) (w':World) (hw:Bw w w'):Calls Tryz.prog 76 #[.pointer (some ⟨Z.sa p k,0,none⟩)] w' fun e w''=>e=.returned (.tuple #[.agg #[.int .i64 ((P p).t k).g.s,.int .i64 ((P p).t k).g.z,.int .i64 ((P p).t k).g.h],.bool ((P p).t k).has])∧Bw w' w'':=by
 have hS:=(h.zm.below hw).slot p hp k hk
 exact StgN.Yj _ g (Z.sa p k) ((P p).t k) w' hS fun hh=>Mc_ fun e=>by
  have:=hS.is.2 e
  rw [hh] at this
  cases this
theorem un_no (h:DZ w F ζ g s t n P Z) (q:Int) (hq:kfr n P q≠0):Un w (.pointer (some ⟨Z.z,0,none⟩)) q (fun w'=>No w' (kfr n P q)):=fun w' hw=>by
 unfold kfr at hq ⊢
 by_cases h1:q<0∨(n:Int)≤q
 ·rw [if_pos h1]
  exact qjo _ q 3 (by omega) fun w2 hb=>ats_no h q h1 w2 (hw.trans (hb.mono hw.size))
 ·rw [if_neg h1] at hq ⊢
  obtain⟨p,rfl⟩:∃p:Nat,q=p:=⟨q.toNat,by omega⟩
  rw [show ((p:Int)).toNat=p from by omega] at hq ⊢
  have hp:p<n:=by omega
  by_cases h2:(P p).l.r.a≠(P p).l.r.c
  ·rw [if_pos h2]
   exact Tv _ _ g (Z.la p) (Z.sa p 0) (Z.sa p 1) (fun w2 hb=>ats_yes h hp w2 (hw.trans (hb.mono hw.size))) fun w2 hb=>trs_at h hp true ⟨fun _=>h2,fun _=>rfl⟩ w2 (hw.trans (hb.mono hw.size))
  ·rw [if_neg h2] at hq;exact absurd rfl hq
theorem kfr_0 {q:Int} (h:kfr n P q=0):∃p:Nat,q=p∧p<n∧(P p).l.r.a=(P p).l.r.c:=by
 unfold kfr at h
 by_cases h1:q<0∨(n:Int)≤q
 ·rw [if_pos h1] at h;exact absurd h (by decide)
 rw [if_neg h1] at h
 by_cases h2:(P q.toNat).l.r.a≠(P q.toNat).l.r.c
 ·rw [if_pos h2] at h;exact absurd h (by decide)
 exact⟨q.toNat,by omega,by omega,Mc_ h2⟩
theorem un_ok (h:DZ w F ζ g s t n P Z) (hp:p<n) (ha:(P p).l.r.a=(P p).l.r.c):Un w (.pointer (some ⟨Z.z,0,none⟩)) (p:Nat) (fun w'=>Is w' g (Z.la p) (Z.sa p 0) (Z.sa p 1)):=fun w' hw=>
 qjp _ _ g (Z.la p) (Z.sa p 0) (Z.sa p 1) (fun w2 hb=>ats_yes h hp w2 (hw.trans (hb.mono hw.size))) fun w2 hb=>trs_at h hp false ⟨fun e=>(by cases e),fun e=>absurd ha e⟩ w2 (hw.trans (hb.mono hw.size))
theorem sd_no (h:DZ w F ζ g s t n P Z) (a:Au n s P O) (q ses:Int) (hq:kbg n P q ses≠0):Sd w (.pointer (some ⟨Z.z,0,none⟩)) q ses (fun w'=>No w' (kbg n P q ses)):=fun w' hw=>by
 unfold kbg at hq ⊢
 by_cases h1:kfr n P q≠0
 ·rw [if_pos h1]
  exact qvp _ q ses _ h1 fun w2 hb=>un_no h q h1 w2 (hw.trans (hb.mono hw.size))
 ·rw [if_neg h1] at hq ⊢
  obtain⟨p,rfl,hp,ha⟩:=kfr_0 (Mc_ h1)
  rw [show ((p:Int)).toNat=p from by omega] at hq ⊢
  have hc:=(a.hc hp).2
  by_cases h2:((P p).t (ksp (P p))).has=false
  ·rw [if_pos h2]
   exact qvq _ _ ses _ _ _ g (Z.la p) (Z.sa p 0) (Z.sa p 1) (Z.sa p (ksp (P p))) (fun w2 hb=>un_ok h hp ha w2 (hw.trans (hb.mono hw.size))) (fun w2 hb=>ldd_at h hp hc w2 (hw.trans (hb.mono hw.size))) fun w2 hb=>by
    have:=qqz h hp (ksp_le (P p)) w2 (hw.trans (hb.mono hw.size))
    rw [h2] at this
    exact this
  ·rw [if_neg h2] at hq ⊢
   have h2':((P p).t (ksp (P p))).has=true:=by simpa using h2
   by_cases h3:((P p).t (ksp (P p))).g.s≠ses
   ·rw [if_pos h3]
    exact qvr _ _ ses _ _ _ g (Z.la p) (Z.sa p 0) (Z.sa p 1) (Z.sa p (ksp (P p))) h3 (fun w2 hb=>un_ok h hp ha w2 (hw.trans (hb.mono hw.size))) (fun w2 hb=>ldd_at h hp hc w2 (hw.trans (hb.mono hw.size))) fun w2 hb=>by
     have:=qqz h hp (ksp_le (P p)) w2 (hw.trans (hb.mono hw.size))
     rw [h2'] at this
     exact this
   ·rw [if_neg h3] at hq;exact absurd rfl hq
theorem kbg_0 {q ses:Int} (h:kbg n P q ses=0):∃p:Nat,q=p∧p<n∧(P p).l.r.a=(P p).l.r.c∧((P p).t (ksp (P p))).has=true∧((P p).t (ksp (P p))).g.s=ses:=by
 unfold kbg at h
 by_cases h1:kfr n P q≠0
 ·rw [if_pos h1] at h;exact absurd h h1
 rw [if_neg h1] at h
 obtain⟨p,rfl,hp,ha⟩:=kfr_0 (Mc_ h1)
 rw [show ((p:Int)).toNat=p from by omega] at h
 by_cases h2:((P p).t (ksp (P p))).has=false
 ·rw [if_pos h2] at h;exact absurd h (by decide)
 rw [if_neg h2] at h
 by_cases h3:((P p).t (ksp (P p))).g.s≠ses
 ·rw [if_pos h3] at h;exact absurd h (by decide)
 exact⟨p,rfl,hp,ha,by simpa using h2,Mc_ h3⟩
theorem sd_ok (h:DZ w F ζ g s t n P Z) (a:Au n s P O) (ses:Int) (hp:p<n) (ha:(P p).l.r.a=(P p).l.r.c) (h2:((P p).t (ksp (P p))).has=true) (h3:((P p).t (ksp (P p))).g.s=ses):Sd w (.pointer (some ⟨Z.z,0,none⟩)) (p:Nat) ses (fun w'=>Is w' g (Z.la p) (Z.sa p 0) (Z.sa p 1)):=fun w' hw=>
 qvs _ _ ses _ _ _ g (Z.la p) (Z.sa p 0) (Z.sa p 1) (Z.sa p (ksp (P p))) h3 (fun w2 hb=>un_ok h hp ha w2 (hw.trans (hb.mono hw.size))) (fun w2 hb=>ldd_at h hp (a.hc hp).2 w2 (hw.trans (hb.mono hw.size))) fun w2 hb=>by
  have:=qqz h hp (ksp_le (P p)) w2 (hw.trans (hb.mono hw.size))
  rw [h2] at this
  exact this
theorem DZ.gone (h:DZ w F ζ g s t n P Z) {F':Nat→Prop} {w':World} (hD:Dk w' F' g s) (hk:Keep F w w') (hF:∀i,F' i→F i∨w.heap.size≤i):Zgo F ζ g t n Z w s P w':=
 ⟨F',hD,h.zm.keep hk fun i hi hf=>hi (h.dis i hf),fun i hi=>by
  rcases hF i hi with h1|h1
  ·exact h.dis i h1
  ·exact Mc_ fun h2=>by have:=h.zm.lt i h2;omega,hk.mono fun _ _ hi=>.inl hi,hF⟩
theorem hr_up (h:DZ w F ζ g s t n P Z) (a:Au n s P O) (hu:s.down=false) (hp:p<n):Hr w g (Z.la p) (Z.sa p 0) (Z.sa p 1) (fun w'=>Zr w'):=fun w' hw=>by
 have hrc:=a.rc hp
 have hlo:=a.lo hu hp
 have hn:=h.zm.n4
 have hl:=h.len
 obtain⟨r,hr⟩:∃r,r=(P p).l.r:=⟨_,rfl⟩
 obtain⟨r0,r1,r2,r3,r4,r5⟩:=r
 obtain rfl:r0=(p:Nat):=by have:=hrc.2.1;rw [←hr] at this;exact this
 have hq:1≤(lO s p).r.q:=by rw [hlo];exact hrc.1.1.2.1.1
 refine Xu (Z.la p) (Z.sa p 0) (Z.sa p 1) _ r1 r2 r3 r4 r5 (fun w2 hb=>lat_of h hp _ _ _ _ _ _ hr.symm w2 (hw.trans (hb.mono hw.size))) fun w2 hb=>?_
 have hb2:=hw.trans (hb.mono hw.size)
 refine (CmtN.Uw F g s p w2 (h.dk.below hb2) (by omega) (by omega) hu h.most (Put2.Vt a.byts)).mono fun e w3 ⟨h1,h2⟩=>?_
 rcases h2 with⟨_,x,J,h3,h4,_⟩|⟨h3,_⟩
 ·refine⟨x,h3,h1,fun w4 hb4=>?_⟩
  have h5:=CmtN.Uk J g x (lO s p) w4 (h4.below hb4)
  rw [hlo,←hr] at h5
  exact h5
 ·omega
theorem hr_dn (h:DZ w F ζ g s t n P Z) (a:Au n s P O) (hd:s.down=true) (hp:p<n):Hr w g (Z.la p) (Z.sa p 0) (Z.sa p 1) (fun _=>An 8 (Zgo F ζ g t n Z w s P)):=fun w' hw=>by
 have hrc:=a.rc hp
 have hn:=h.zm.n4
 have hl:=h.len
 obtain⟨r,hr⟩:∃r,r=(P p).l.r:=⟨_,rfl⟩
 obtain⟨r0,r1,r2,r3,r4,r5⟩:=r
 obtain rfl:r0=(p:Nat):=by have:=hrc.2.1;rw [←hr] at this;exact this
 have hri:(⟨(p:Nat),r1,r2,r3,r4,r5⟩:Rc).right:=by rw [hr];exact hrc.1
 have h':=h.below hw
 refine (holdRecord_dn h'.dk hd (Z.la p) (Z.sa p 0) (Z.sa p 1) p (by omega) (by omega) r1 r2 r3 r4 r5 hri (rok_of hri) (fun w2 hb=>lat_of h' hp _ _ _ _ _ _ hr.symm w2 hb)).mono fun e w2 ⟨h1,F',h2,h3,h4⟩=>?_
 exact⟨h1,(h'.gone h2 h3 h4).from hw⟩
end
end StoN
namespace StoLd
open Go.Shelf Kit Byt Mem DskA RecM
open StgN (Sm DS Sgo)
open BitP (Kp Kp.refl Kp.t Kp.b J0)
def Cel (w:World) (i:Nat):Prop:=∀o:Obj,w.heap[i]?=some o→o.isCells=true
theorem cel_blk {w:World} {b:Nat} {t:TypeId} {xs:List Value} (h:Blk w b t xs):Cel w b:=fun o ho=>by
 rw [show w.heap[b]?=some _ from h] at ho
 injection ho with ho
 subst ho
 rfl
theorem qw2 {w:World} {b o:Nat} {u:Value} (h:w.cell? ⟨b,o,none⟩=some u):Cel w b:=fun ob ho=>by
 unfold World.cell? at h
 rw [ho] at h
 cases ob <;> first|rfl|(simp at h)
theorem cel_rd {w:World} {A:Option Addr} {n c:Nat} {xs:List Value} (h:Rd w A n c xs) (h0:0<n) (b o:Nat) (e:A=some ⟨b,o,none⟩):Cel w b:=by
 obtain⟨b',o',hA,_,hj⟩:=h.2.2.2 h0
 rw [e] at hA
 injection hA with hA
 injection hA with e1 e2
 subst e1 e2
 have hl:=h.1
 exact qw2 (hj 0 (xs[0]'(by omega)) (by simp [show 0<xs.length from by omega]))
theorem cel_own {w:World} {base n b:Nat} {e:TypeId} {size:Nat} {v:Value} {xs:List Value} (h:w.ownsRow base e size v n xs) (hv:v.ownBlock=some b):Cel w b:=by
 obtain⟨_,cur,hc⟩:=StoN.own_cells h hv
 intro o ho
 rw [hc] at ho
 injection ho with ho
 subst ho
 rfl
theorem dk_cel {w:World} {F:Nat→Prop} {g:Nat} {s:St} (h:Dk w F g s):∃F0:Nat→Prop,Dk w F0 g s∧(∀i,F0 i→F i)∧∀i,F0 i→Cel w i:=by
 obtain⟨gl,A,n,c,E,hA⟩:=h
 refine⟨fun i=>i=g∨i=gl∨(Value.slice A n c).ownBlock=some i∨∃e ∈ E,e.b=i,⟨gl,A,n,c,E,hA.head,hA.laid,hA.own,hA.list,fun e he=>?_,.inl rfl,.inr (.inl rfl),hA.ne,fun k hk=>⟨.inr (.inr (.inl hk)),(hA.fw k hk).2⟩,fun k hk=>?_,hA.ok⟩,fun i hi=>?_,fun i hi=>?_⟩
 ·have h1:=hA.ent e he
  exact⟨h1.1,.inr (.inr (.inr ⟨e,he,rfl⟩)),h1.2.2⟩
 ·rcases hk with rfl|rfl|hk|⟨e,he,rfl⟩
  ·exact hA.lt _ hA.fg
  ·exact hA.lt _ hA.fl
  ·exact hA.lt _ (hA.fw k hk).1
  ·exact hA.lt _ (hA.ent e he).2.1
 ·rcases hi with rfl|rfl|hi|⟨e,he,rfl⟩
  ·exact hA.fg
  ·exact hA.fl
  ·exact (hA.fw i hi).1
  ·exact (hA.ent e he).2.1
 ·rcases hi with rfl|rfl|hi|⟨e,he,rfl⟩
  ·exact cel_blk hA.head
  ·exact cel_blk hA.laid
  ·exact cel_own hA.own hi
  ·exact cel_rd (hA.ent e he).1 (by omega) e.b 0 rfl
end StoLd
namespace StoLd
open Go.Shelf Kit Byt Mem DskA DskB DskE DskF RecM StgM StgP StgJ StoK StoMk
open StgN (Sm DS Sgo)
open BitP (Kp Kp.refl Kp.t Kp.b J0)
open ShaM (by256)
attribute [local go_sem] Oper.semAt_some
structure MI (wR:World) (F1:Nat→Prop) (g a B2:Nat) (s:St) (t:Slt) (len:Nat) (ds:List (List Nat)) (W:World):Prop where
 dk:∃F,Dk W F g (pD s t len ds).1.1∧(∀i,F i→Cel W i)∧∀i,F i→F1 i∨wR.heap.size≤i
 sm:Sm W (fun i=>i=a) a g (pD s t len ds).1.2
 kp:Keep (fun i=>F1 i∨i=a∨i=B2) wR W
 b2:Blk W B2 3 [.int .i64 (ds.length:Nat)]
theorem MI.own {α:Type} {wR:World} {F1:Nat→Prop} {g a B2:Nat} {s:St} {t:Slt} {len:Nat} (f:List α→List (List Nat)):OwnFrom wR.heap.size (fun pre W=>MI wR F1 g a B2 s t len (f pre) W):=fun pre W W' row h hg hr=>by
 obtain⟨F,h1,h2,h3⟩:=h.dk
 have hk:Keep (fun i=>row=some i) W W':=Keep.grown hg fun _ e=>e
 have hcel:∀i,Cel W i→¬row=some i:=fun i hc e=>by
  obtain⟨_,o,ho,hn⟩:=hr i e
  have:=hc o ho
  rw [hn] at this
  cases this
 refine⟨⟨F,h1.keep hk fun i hi=>hcel i (h2 i hi),fun i hi o ho=>?_,h3⟩,h.sm.keep hk fun i hi=>?_,h.kp.trans hk fun i hi=>.inr (hr i hi).1,J0 h.b2 hg hr⟩
 ·rw [hk.block i (h1.lt i hi) (hcel i (h2 i hi))] at ho
  exact h2 i hi o ho
 ·rw [show i=a from hi]
  exact hcel a (cel_blk h.sm.blk)
theorem Kn (n:Nat):nbk n=blocks (n:Nat):=by unfold nbk blocks;omega
theorem qw3 {N:Nat} {l:List (Fin N)} {k:Nat} (h:upto l k) (f:Nat→List Nat):l.map (fun x=>f x.val)=(List.range k).map f:=by
 rw [←h,List.map_map]
 rfl
theorem zs16:(u8n (zs 16)).toArray = #[.int .u8 0,.int .u8 0,.int .u8 0,.int .u8 0,.int .u8 0,.int .u8 0,.int .u8 0,.int .u8 0,.int .u8 0,.int .u8 0,.int .u8 0,.int .u8 0,.int .u8 0,.int .u8 0,.int .u8 0,.int .u8 0]:=by kernel_rfl
theorem Gv:(Tryz.prog.info? 5).map (·.size)=some 1:=by kernel_rfl
theorem bk_splice (xs:List Nat) (k:Nat) (hk:16*k<xs.length):splice (u8n (zs 16)) 0 (u8n ((xs.drop (16*k)).take 16))=u8n (bk xs k):=by
 rw [Yy]
 congr 1
 unfold bk splice
 rw [List.take_zero,List.nil_append,Nat.zero_add]
 congr 1
 show (List.replicate 16 0).drop _=_
 rw [List.drop_replicate,Mk_,List.length_drop]
 congr 1
 omega
section
variable {w:World} {F:Nat→Prop} {g a:Nat} {S0:List (List Nat)} {s:St} {t:Slt} {x:Rf} {xs:List Nat}
theorem Gn (hD:Dk w F g s) (hS:Sm w (fun i=>i=a) a g t) (haF : ¬F a) (hfit:t.p≤3∧t.k≤1) (hi:Inv S0 s t x) (hf:Free s) (b o c:Nat) (hR:Rd w (some ⟨b,o,none⟩) xs.length c (u8n xs)) (hbF : ¬F b) (hba:b≠a) (hx:by256 xs) (hn:1≤xs.length∧xs.length≤160) :
 Calls Tryz.prog 65 #[.pointer (some ⟨a,0,none⟩),.slice (some ⟨b,o,none⟩) xs.length c] w fun e w'=>e=.returned (.int .i64 0)∧∃F',Dk w' F' g (pL s t xs (blocks (xs.length:Nat))).1∧Sm w' (fun i=>i=a) a g (pL s t xs (blocks (xs.length:Nat))).2∧Keep (fun i=>F i∨i=a) w w'∧∀i,F' i→F i∨w.heap.size≤i:=by
 obtain⟨n,hnn⟩:∃n,n=xs.length:=⟨_,rfl⟩
 rw [←hnn] at hR hn ⊢
 have hp0:=pB_pd hi hf (len:=n) hn
 have hsl:s.S.length=s.S.length:=rfl
 have hds:DS w F (fun i=>i=a) g a s t:=⟨hD,hS,fun i hF he=>haF ((show i=a from he)▸hF),by rw [hi.up.none_];exact Nat.zero_le _,hfit.1,hfit.2,hi.len⟩
 have HB:=Hz (fun w' (hb:Bw w w')=>callsIn_wide (n:=4) |>.2 (StgN.begin_any F (fun i=>i=a) g a s t 1 (n:Nat) w' ⟨hD.below hb,hS.below hb,hds.dis,hds.most,hds.fits⟩ ⟨by omega,by omega⟩ ⟨by omega,by omega⟩))
 have HD:=Hz hD
 have HS:=Hz hS
 have L0:=Hz (show Bw w ((w.alloc (.cells #[.pointer (some ⟨a,0,none⟩)] 76)).alloc (.cells #[.int .i64 0] 35)) from ((Mb _ _).alloc (Mr _) _).alloc (by rw [Ms];omega) _)
 have X0:=Hz (show Blk ((w.alloc (.cells #[.pointer (some ⟨a,0,none⟩)] 76)).alloc (.cells #[.int .i64 0] 35)) w.heap.size 76 [.pointer (some ⟨a,0,none⟩)] from (Blk.new w _ [.pointer (some ⟨a,0,none⟩)]).alloc _)
 have E0:=Hz (show Blk ((w.alloc (.cells #[.pointer (some ⟨a,0,none⟩)] 76)).alloc (.cells #[.int .i64 0] 35)) (w.heap.size+1) 35 [.int .i64 0] from by
  have:=Blk.new (w.alloc (.cells #[.pointer (some ⟨a,0,none⟩)] 76)) 35 [.int .i64 0]
  rw [Ms] at this
  exact this)
 rw [hp0.1] at HB
 have HP0:=Hz hp0.2
 have HIF:=Hz (And.intro haF (And.intro hbF (And.intro hx (And.intro hn hba))))
 have HRX:=Hz hR
 have HNN:=Hz hnn
 have HIV:=Hz (And.intro hi hf)
 have HFT:=Hz hfit
 clear hD hS hi hf hR haF hbF hba hx hds hp0 hsl hnn hfit
 have f68:Fence.wide.fn 50:=trivial
 have f186:Fence.wide.fn 114:=trivial
 refine callsIn_wide (n:=5) |>.1 ?_
 refine callsIn_of_wp_marks Tryz.func65 rfl trivial ?_ rfl
 simp only [Tryz.ntmps65,List.size_toArray,List.length_cons,List.length_nil,Nat.reduceAdd,Nat.reduceSub,Array.replicate_succ,Array.replicate_zero,List.push_toArray,List.append_toArray,List.nil_append,List.cons_append]
 gi_wp2_with (first
  | (gi_at_call 50;refine (HB.o _ L0.o).mono ?_;rintro e w1 ⟨rfl,F1,J1,hD1,hS1,hdis1,hk1,hF1,hJ1⟩;have HD1:=Hz hD1;have HS1:=Hz hS1;have HK1:=Hz hk1;have HF1:=Hz hF1;have HDIS:=Hz hdis1;clear hD1 hS1 hdis1 hk1 hF1 hJ1)
  | (gi_at_call 114;refine (chunk_in 4 _ _ _ _).mono ?_;rintro e w2 ⟨rfl,rfl⟩))
 obtain⟨F1c,hD1c,hsub,hcel⟩:=dk_cel HD1.o
 obtain⟨wR,hwR⟩:∃wR,((w1.alloc (.cells #[.int .i64 0] 3)).alloc (.cells #[.slice (some ⟨b,o,none⟩) n c] 31)).alloc (.cells #[.int .i64 16] 3)=wR:=⟨_,rfl⟩
 obtain⟨b2,bS,bN,hBR,hszR⟩:=BitS.laid3 w1 _ _ _ [.int .i64 0] [.slice (some ⟨b,o,none⟩) n c] [.int .i64 16] hwR
 rw [hwR]
 clear hwR
 have hwl:=HD.o.lt
 have hal:=HS.o.blk.lt
 have hk01:w.heap.size+2≤w1.heap.size:=by have:=HK1.o.size;simpa using this
 have hnF:∀i,w.heap.size≤i→¬(F i∨i=a):=fun i hi hh=>by rcases hh with hh|hh;have:=hwl i hh;omega;omega
 have x1:Blk w1 w.heap.size 76 [.pointer (some ⟨a,0,none⟩)]:=HK1.o.blk X0.o (hnF _ (Mr _))
 have e1:Blk w1 (w.heap.size+1) 35 [.int .i64 0]:=HK1.o.blk E0.o (hnF _ (by omega))
 have r1:Rd w1 (some ⟨b,o,none⟩) n c (u8n xs):=HK1.o.rd (HRX.o.below L0.o) fun _ b' o' e hh=>by
  injection e with e
  injection e with e1 e2
  subst e1
  rcases hh with hh|hh
  ·exact HIF.o.2.1 hh
  ·exact HIF.o.2.2.2.2 hh
 have XR:=Hz (x1.below hBR)
 have ER:=Hz (e1.below hBR)
 have RR:=Hz (r1.below hBR)
 have sa1:Sm w1 (fun i=>i=a) a g (pB s t 1 (n:Nat)).2.1:=⟨HS1.o.blk,fun _=>Iff.rfl,HS1.o.is,HS1.o.ok⟩
 have hF1a:∀i,F1c i→i≠a:=fun i hi e=>HDIS.o i (hsub i hi) ((HS1.o.own i).2 e)
 have hF1l:∀i,F1c i→i<w1.heap.size:=hD1c.lt
 have hF1n:∀i,F1c i→F i∨w.heap.size+2≤i:=fun i hi=>by
  rcases HF1.o i (hsub i hi) with (h1|h1)|h1
  ·exact .inl h1
  ·exact absurd h1 (hF1a i hi)
  ·exact .inr (by simpa using h1)
 have M0:=Hz (show MI wR F1c g a w1.heap.size s t n [] wR from⟨⟨F1c,hD1c.below hBR,fun i hi ob ho=>hcel i hi ob (by rw [←hBR.block i (hF1l i hi)];exact ho),fun i hi=>.inl hi⟩,sa1.below hBR,Keep.refl _ _,b2⟩)
 have HF1C:=Hz (And.intro hF1a (And.intro hF1l hF1n))
 have HBR:=Hz hBR
 have hBRs:w1.heap.size+3=wR.heap.size:=hszR.symm
 clear x1 e1 r1 sa1 hF1a hF1l hF1n hBR hcel hsub hD1c HF1 HD1 HS1 HDIS X0 E0 HB
 have hb1000:0<n∧n≤1000:=by have:=HIF.o.2.2.2.1;omega
 have hcc:n≤c∧c≤9223372036854775807:=⟨HRX.o.2.1,HRX.o.2.2.1⟩
 refine wpIn_rangeFunc_ownH rfl (by decide) (gf:=153) (lb:=#[.pointer (some ⟨w1.heap.size+1,0,none⟩),.pointer (some ⟨w1.heap.size+1+1,0,none⟩)]) rfl trivial (enters_of Tryz.func153 (by kernel_rfl) rfl)
  (chunk_stops 4 (by decide) (w1.heap.size+1) (w1.heap.size+1+1) b o n c hb1000 hcc wR bS bN) Kp.t (Kp.b (by omega) (by omega)) (Mb _ _) (fun _=>rfl)
  (fun pre W=>MI wR F1c g a w1.heap.size s t n (pre.map fun x=>bk xs x.val) W)
  (fun _ _ _=>False)
  (MI.own _)
  (fun _ _ _ _ _ hs _ _=>hs)
  M0.o
  (fun x a' (_:World)=>a' = { tmps:=#[.pointer (some ⟨a,0,none⟩),.slice (some ⟨b,o,none⟩) n c,.pointer (some ⟨w.heap.size,0,none⟩),undef,.pointer (some ⟨w.heap.size+1,0,none⟩),.int .i64 0,.pointer (some ⟨w1.heap.size,0,none⟩),.slice (some ⟨b,o+16*x.val,none⟩) (pce n x.val) (pce n x.val),undef,undef,.pointer (some ⟨a,0,none⟩),.slice (some ⟨b,o,none⟩) n c,.int .i64 (n:Nat),.int .i64 0,.int .i64 0,.bool false,undef,.slice (some ⟨b,o,none⟩) n c,.func (.func 153) #[] #[.pointer (some ⟨w1.heap.size+1,0,none⟩),.pointer (some ⟨w1.heap.size+1+1,0,none⟩)],.slice (some ⟨b,o+16*x.val,none⟩) (pce n x.val) (pce n x.val),undef,undef,undef,undef,undef,undef,undef,undef,undef,undef,undef,undef],defers:=[] })
  (fun _ _ _ _ _ _ hs _ _=>hs)
  ?assign ?body ?done ?stop
 case assign=>
  rintro l pre x W K hI hK
  simp only [enc]
  gi_wp2
  exact hK _ _ (KeepsFrom.refl _ _) (Kp.refl _) hI rfl
 case body=>
  rintro l pre x a' W hl ⟨r,hr⟩ hI rfl hlt
  obtain⟨F2,hD2,hcel2,hF2⟩:=hI.dk
  obtain⟨ds,hds⟩:∃ds,ds=pre.map fun x=>bk xs x.val:=⟨_,rfl⟩
  have hdl:ds.length=pre.length:=by rw [hds,List.length_map]
  rw [←hds] at hD2 hI
  have hNb:pre.length<blocks (n:Nat):=by rw [←Kn];exact hlt
  have hpd:=pD_pd HIV.o.1 HIV.o.2 (len:=n) HIF.o.2.2.2.1 pre.length ds hdl (by omega) fun d hd=>by
   rw [hds] at hd
   obtain⟨y,_,rfl⟩:=List.mem_map.1 hd
   exact⟨bk_len xs y.val,fun c hc=>bk_by HIF.o.2.2.1 y.val c hc⟩
  have hnn:=pD_n s t n pre.length ds hdl
  obtain⟨j,hj⟩:∃j,j=pre.length:=⟨_,rfl⟩
  rw [←hj] at hdl hNb hnn
  obtain⟨rr,hrr⟩:∃rr,rr=(pD s t n ds).1:=⟨_,rfl⟩
  have hsm2:=hI.sm
  rw [←hrr] at hD2 hpd hsm2
  obtain⟨x',hinv⟩:=hpd.inv
  have hstp:=pP_pd hpd (by have:=HIF.o.2.2.2.1;omega) hNb (bk_len xs x.val) (fun c hc=>bk_by HIF.o.2.2.1 x.val c hc)
  have hF2a:∀i,F2 i→¬i=a:=fun i hi e=>by
   rcases hF2 i hi with h1|h1
   ·exact HF1C.o.1 i h1 e
   ·have:=hBRs;omega
  have hRW:=hI.kp.size
  have hxn:16*x.val<n:=by have h8:=x.isLt;unfold nbk at h8;omega
  have hB0:Blk W w.heap.size 76 [.pointer (some ⟨a,0,none⟩)]:=hI.kp.blk XR.o fun hh=>by
   rcases hh with hh|hh|hh
   ·rcases HF1C.o.2.2 _ hh with h1|h1
    ·have:=hwl _ h1;omega
    ·omega
   ·omega
   ·omega
  have hRW2:Rd W (some ⟨b,o,none⟩) n c (u8n xs):=hI.kp.rd RR.o fun _ b' o' e hh=>by
   injection e with e
   injection e with e1 e2
   subst e1
   have hbl:b<w.heap.size:=by
    obtain⟨b',o',e',hb',_⟩:=HRX.o.2.2.2 (by omega)
    injection e' with e'
    injection e' with e3 _
    omega
   rcases hh with hh|hh|hh
   ·rcases HF1C.o.2.2 _ hh with h1|h1
    ·exact HIF.o.2.1 h1
    ·omega
   ·exact HIF.o.2.2.2.2 hh
   ·omega
  have hds2:DS W F2 (fun i=>i=a) g a rr.1 rr.2:=⟨hD2,hsm2,hF2a,by rw [hinv.up.none_];exact Nat.zero_le _,by rw [hpd.p];exact HFT.o.1,by rw [hpd.k];exact HFT.o.2,hinv.len⟩
  have hpl:((xs.drop (16*x.val)).take 16).length=pce n x.val:=by rw [Mk_,List.length_drop,←HNN.o];rfl
  have hys:∀k u,(u8n ((xs.drop (16*x.val)).take 16))[k]?=some u→(W.alloc (.cells #[.int .u8 0,.int .u8 0,.int .u8 0,.int .u8 0,.int .u8 0,.int .u8 0,.int .u8 0,.int .u8 0,.int .u8 0,.int .u8 0,.int .u8 0,.int .u8 0,.int .u8 0,.int .u8 0,.int .u8 0,.int .u8 0] 184)).cell? ⟨b,(o+16*x.val)+k,none⟩=some u:=fun k u hu=>by
   obtain⟨b',o',e',hb',hj'⟩:=hRW2.2.2.2 (by omega)
   injection e' with e'
   injection e' with e3 e4
   subst e3 e4
   have h1:(u8n xs)[16*x.val+k]?=some u:=by
    unfold u8n at hu ⊢
    rw [List.getElem?_map,List.getElem?_take] at hu
    split at hu
    ·rw [List.getElem?_drop] at hu
     rw [List.getElem?_map]
     exact hu
    ·cases hu
   have h2:=hj' _ u h1
   rw [Nat.add_assoc,←h2]
   exact ((Mb W.heap.size W).alloc (Mr _) _).cell (p:=⟨b,o+(16*x.val+k),none⟩) hb'
  have hZ:=zs16
  have HYS:=Hz hys
  have HPL:=Hz hpl
  have HB0:=Hz hB0
  have HDS2:=Hz hds2
  have HI:=Hz hI
  have HST:=Hz hstp
  have HPD:=Hz hpd
  have HINV:=Hz hinv
  have HC2:=Hz hcel2
  have HF2:=Hz hF2
  have HBW:=Hz (show Blk (W.alloc (.cells #[.int .u8 0,.int .u8 0,.int .u8 0,.int .u8 0,.int .u8 0,.int .u8 0,.int .u8 0,.int .u8 0,.int .u8 0,.int .u8 0,.int .u8 0,.int .u8 0,.int .u8 0,.int .u8 0,.int .u8 0,.int .u8 0] 184)) W.heap.size 184 (u8n (zs 16)) from by rw [←hZ];exact Blk.new W _ _)
  have HSP:=Hz (bk_splice xs x.val (by rw [←HNN.o];exact hxn))
  have HDL:=Hz (And.intro hdl (And.intro hnn (And.intro hrr (And.intro hds hj))))
  have f69:Fence.wide.fn 51:=trivial
  clear hys hpl hB0 hds2 hI hstp hpd hinv hcel2 hF2 hZ hD2 hsm2 hF2a hRW2 hdl hnn hrr hds hj
  have hrun:=run_copy_row (P:=Tryz.prog) (W.alloc (.cells #[.int .u8 0,.int .u8 0,.int .u8 0,.int .u8 0,.int .u8 0,.int .u8 0,.int .u8 0,.int .u8 0,.int .u8 0,.int .u8 0,.int .u8 0,.int .u8 0,.int .u8 0,.int .u8 0,.int .u8 0,.int .u8 0] 184)) 31 31 3 5 W.heap.size 0 16 16 ⟨b,o+16*x.val,none⟩ (pce n x.val) (pce n x.val) (u8n (zs 16)).toArray 184 (u8n ((xs.drop (16*x.val)).take 16)) Tryz.underlying31 Gv HBW.o (by rw [Qv,HPL.o];exact (Nat.min_eq_left (by unfold pce;omega)).symm) (fun k u hu=>by rw [Addr.add_lit];exact HYS.o k u hu) (by show 0+(u8n _).length≤_;rw [Qv,HPL.o];show _≤16;unfold pce;omega) (u8n_one _)
  obtain⟨w3,hw3⟩:∃w3,w3=(W.alloc (.cells #[.int .u8 0,.int .u8 0,.int .u8 0,.int .u8 0,.int .u8 0,.int .u8 0,.int .u8 0,.int .u8 0,.int .u8 0,.int .u8 0,.int .u8 0,.int .u8 0,.int .u8 0,.int .u8 0,.int .u8 0,.int .u8 0] 184)).setRow W.heap.size (splice (u8n (zs 16)) 0 (u8n ((xs.drop (16*x.val)).take 16))).toArray:=⟨_,rfl⟩
  have hB3:Blk w3 W.heap.size 184 (u8n (bk xs x.val)):=by rw [hw3,←HSP.o];exact setRow_heap _ _ _ _ _ _ HBW.o
  have ho3:Only W.heap.size (W.alloc (.cells #[.int .u8 0,.int .u8 0,.int .u8 0,.int .u8 0,.int .u8 0,.int .u8 0,.int .u8 0,.int .u8 0,.int .u8 0,.int .u8 0,.int .u8 0,.int .u8 0,.int .u8 0,.int .u8 0,.int .u8 0,.int .u8 0] 184)) w3:=by rw [hw3];exact Only.row _ _ _
  have hcp:(Builtin.copy_ #[31,31] 3 #[.slice (some ⟨W.heap.size,0,none⟩) 16 16,.slice (some ⟨b,o+16*x.val,none⟩) (pce n x.val) (pce n x.val)]).run Tryz.prog (W.alloc (.cells #[.int .u8 0,.int .u8 0,.int .u8 0,.int .u8 0,.int .u8 0,.int .u8 0,.int .u8 0,.int .u8 0,.int .u8 0,.int .u8 0,.int .u8 0,.int .u8 0,.int .u8 0,.int .u8 0,.int .u8 0,.int .u8 0] 184))=.ok (.int .i64 (pce n x.val:Nat)) w3:=by
   rw [hrun,hw3]
   have e:goInt (u8n ((xs.drop (16*x.val)).take 16)).length=.int .i64 (pce n x.val:Nat):=by rw [Qv,HPL.o];rfl
   rw [e]
   rfl
  clear hrun hw3
  have B3:=Hz hB3
  have O3:=Hz ho3
  clear hB3 ho3
  have hB0w:Blk w3 w.heap.size 76 [.pointer (some ⟨a,0,none⟩)]:=O3.o.blk (HB0.o.alloc _) (by omega)
  have hB2w:Blk w3 w1.heap.size 3 [.int .i64 (j:Nat)]:=O3.o.blk (by have h8:=HI.o.b2;rw [HDL.o.1] at h8;exact h8.alloc _) (by omega)
  have c0:=hB0w.cell (i:=0) rfl
  have c2:=hB2w.cell (i:=0) rfl
  have hk3:Bw W w3:=O3.o.below ((Mb _ _).alloc (Mr _) _) (Mr _) (size_alloc _ _)
  have HK3:=Hz hk3
  have HPUT:=Hz (callsIn_wide (n:=2) |>.2 (StgN.put_any F2 (fun i=>i=a) g a rr.1 rr.2 1 (j:Nat) (some ⟨W.heap.size,0,none⟩) 16 16 (bk xs x.val) w3.drew
   ⟨(HDS2.o.dk.below hk3).keep (Keep.drew (Keep.refl (fun _=>False) w3)) (fun _ _ h=>h),(HDS2.o.sm.below hk3).keep (Keep.drew (Keep.refl (fun _=>False) w3)) (fun _ _ h=>h),HDS2.o.dis,HDS2.o.most,HDS2.o.fits⟩
   ⟨by omega,by omega⟩ ⟨by omega,by have:=HIF.o.2.2.2.1;unfold blocks at hNb;omega⟩ (right_of HINV.o) (show Rd w3.drew _ _ _ _ from blk_rd B3.o (bk_len xs x.val) (by omega)) (fun c hc=>bk_by HIF.o.2.2.1 x.val c hc) (fun b' o' e=>by
    injection e with e
    injection e with e1 _
    subst e1
    exact⟨fun hh=>by have:=HDS2.o.dk.lt _ hh;omega,fun hh=>by have h8:W.heap.size=a:=hh;omega⟩)))
  rw [HST.o.1] at HPUT
  clear hB0w hB2w hk3
  gi_wp2
  gi_region_with (gi_at_call 51;refine (CallsIn.inRound l HPUT.o).mono ?_;rintro e w4 ⟨rfl,F4,J4,hD4,hS4,hdis4,hk4,hF4,hJ4⟩;have HD4:=Hz hD4;have HS4:=Hz hS4;have HK4:=Hz hk4;have HF4:=Hz hF4;have HX4:=Hz hdis4;clear hD4 hS4 hdis4 hk4 hF4 hJ4)
  all_goals
   obtain⟨F4c,hD4c,hsub4,hcel4⟩:=dk_cel HD4.o
   have hB2F : ¬(F2 w1.heap.size∨w1.heap.size=a):=fun hh=>by
    rcases hh with hh|hh
    ·rcases HF2.o _ hh with h1|h1
     ·have:=HF1C.o.2.1 _ h1;omega
     ·omega
    ·omega
   have hB2w3:Blk w3.drew w1.heap.size 3 [.int .i64 (j:Nat)]:=O3.o.blk (by have h8:=HI.o.b2;rw [HDL.o.1] at h8;exact h8.alloc _) (by omega)
   have hB24:Blk w4 w1.heap.size 3 [.int .i64 (j:Nat)]:=HK4.o.blk hB2w3 hB2F
   have c4:=hB24.cell (i:=0) rfl
   have f4:=hB24.frozen 0
   have hw:IntKind.i64.wrap ((j:Int)+1)=(j:Int)+1:=by rw [Mi_];have:=HIF.o.2.2.2.1;unfold blocks at hNb;omega
   have HB24:=Hz hB24
   have HC4:=Hz hcel4
   have HSB:=Hz hsub4
   have HDC:=Hz hD4c
   clear hB2w3 hB24 hcel4 hsub4 hD4c c0 c2 hcp
   gi_wp2
   have hd3:w3.drew.heap.size=w3.heap.size:=rfl
   have hs3:=HK3.o.size
   have hs4:=HK4.o.size
   have hF4a:∀i,F4c i→i≠a:=fun i hi e=>HX4.o i (HSB.o i hi) ((HS4.o.own i).2 e)
   have kW:Keep (fun i=>F2 i∨i=a∨i=w1.heap.size) W (w4.setCell ⟨w1.heap.size,0,none⟩ (.int .i64 ((j:Int)+1))):=by
    have k1:Keep (fun i=>F2 i∨i=a∨i=w1.heap.size) W w3.drew:=(Keep.of_below HK3.o).drew
    have k2:=k1.trans HK4.o fun i hi=>.inl (hi.imp id .inl)
    exact k2.trans (Keep.set (F:=fun i=>i=w1.heap.size) w4 0 _ rfl) fun i hi=>.inl (.inr (.inr hi))
   have hrr2:(pD s t n (ds++[bk xs x.val])).1=((pP rr.1 rr.2 1 (j:Nat) (bk xs x.val)).1,(pP rr.1 rr.2 1 (j:Nat) (bk xs x.val)).2.1):=by
    rw [Tq]
    unfold stp
    rw [HDL.o.2.1,←HDL.o.2.2.1]
   have hset:Keep (fun i=>i=w1.heap.size) w4 (w4.setCell ⟨w1.heap.size,0,none⟩ (.int .i64 ((j:Int)+1))):=Keep.set w4 0 _ rfl
   have hF4B:∀i,F4c i→i≠w1.heap.size:=fun i hi e=>by
    subst e
    rcases HF4.o _ (HSB.o _ hi) with h1|h1
    ·exact hB2F h1
    ·omega
   refine⟨⟨kW.size,fun i ob hRi hob hnc=>?_⟩,⟨kW.block _ (by omega) ?_,kW.block _ (by omega) ?_⟩,?_⟩
   ·have hil:i<W.heap.size:=(Array.getElem?_eq_some_iff.1 hob).1
    refine (kW.block i hil fun hh=>?_).trans hob
    rcases hh with hh|hh|hh
    ·have:=HC2.o i hh ob hob
     rw [hnc] at this
     cases this
    ·omega
    ·omega
   ·rintro (hh|hh|hh)
    ·rcases HF2.o _ hh with h1|h1
     ·have:=HF1C.o.2.1 _ h1;omega
     ·omega
    ·omega
    ·omega
   ·rintro (hh|hh|hh)
    ·rcases HF2.o _ hh with h1|h1
     ·have:=HF1C.o.2.1 _ h1;omega
     ·omega
    ·omega
    ·omega
   ·show MI wR F1c g a w1.heap.size s t n ((pre++[x]).map fun x=>bk xs x.val) _
    rw [List.map_append,List.map_cons,List.map_nil,←HDL.o.2.2.2.1]
    refine⟨⟨F4c,?_,fun i hi ob hob=>?_,fun i hi=>?_⟩,?_,?_,?_⟩
    ·rw [hrr2]
     exact HDC.o.keep hset fun i hi e=>hF4B i hi e
    ·rw [hset.block i (HDC.o.lt i hi) (hF4B i hi)] at hob
     exact HC4.o i hi ob hob
    ·rcases HF4.o i (HSB.o i hi) with (h1|h1)|h1
     ·exact HF2.o i h1
     ·exact absurd h1 (hF4a i hi)
     ·exact .inr (by omega)
    ·rw [hrr2]
     exact (show Sm w4 (fun i=>i=a) a g _ from⟨HS4.o.blk,fun _=>Iff.rfl,HS4.o.is,HS4.o.ok⟩).keep hset fun i hi e=>by
      have h8:i=a:=hi
      have h9:i=w1.heap.size:=e
      omega
    ·exact HI.o.kp.trans kW fun i hi=>by
      rcases hi with hi|hi|hi
      ·rcases HF2.o i hi with h1|h1
       ·exact .inl (.inl h1)
       ·exact .inr h1
      ·exact .inl (.inr (.inl hi))
      ·exact .inl (.inr (.inr hi))
    ·have h8:=HB24.o.set 0 (.int .i64 ((j:Int)+1))
     rw [Ma,HDL.o.1]
     exact h8
 case done=>
  rintro D ys W hD hys hI hK
  have hm:(ys.map fun x=>bk xs x.val)=(List.range (blocks (n:Nat))).map (bk xs):=by rw [qw3 hys,Kn]
  rw [hm] at hI
  have hI2:MI wR F1c g a w1.heap.size s t n ((List.range (blocks (n:Nat))).map (bk xs)) W:=hI
  have HI:=Hz hI2
  clear hI hI2 hm hys
  have hRW:=HI.o.kp.size
  have hE:Blk W (w.heap.size+1) 35 [.int .i64 0]:=HI.o.kp.blk ER.o fun hh=>by
   rcases hh with hh|hh|hh
   ·rcases HF1C.o.2.2 _ hh with h1|h1
    ·have:=hwl _ h1;omega
    ·omega
   ·omega
   ·omega
  have cE:=hE.cell (i:=0) rfl
  have fE:=hE.frozen 0
  have HE:=Hz hE
  clear hE
  gi_wp2
  have hK':=(KeepsOthers.setCell W ⟨w.heap.size+1,0,none⟩ (.int .i64 0)).same D _ hK rfl
  refine⟨by simp,.inl ⟨_,_,rfl,run_takeDeferred hK',?_⟩⟩
  have c4:=cell_kept ((HE.o.set 0 (.int .i64 0)).cell (i:=0) rfl) (grownBy_putObj' _ D (.deferred none)) (fun r e=>by cases e;exact⟨_,hK',rfl⟩)
  refine⟨.int .i64 0,by simp [results,Tryz.f65,go_sem,c4],rfl,?_⟩
  obtain⟨F3,hD3,hcel3,hF3⟩:=HI.o.dk
  have hpl:(pD s t n ((List.range (blocks (n:Nat))).map (bk xs))).1=pL s t xs (blocks (n:Nat)):=by
   rw [HNN.o]
   exact pD_pL s t xs _
  rw [←hpl]
  have hg:Keep (fun i=>i=D) (W.setCell ⟨w.heap.size+1,0,none⟩ (.int .i64 0)) ((W.setCell ⟨w.heap.size+1,0,none⟩ (.int .i64 0)).putObj D (.deferred none)):=Keep.grown (grownBy_putObj' _ D (.deferred none)) fun r e=>by cases e;rfl
  have hset:Keep (fun i=>i=w.heap.size+1) W (W.setCell ⟨w.heap.size+1,0,none⟩ (.int .i64 0)):=Keep.set W 0 _ rfl
  have hnc:∀i,Cel W i→i≠D:=fun i hc e=>by
   subst e
   have:=hc _ hK
   cases this
  have hk2:Keep (fun i=>i=w.heap.size+1∨i=D) W ((W.setCell ⟨w.heap.size+1,0,none⟩ (.int .i64 0)).putObj D (.deferred none)):=(hset.mono fun i _ hi=>.inl hi).trans hg fun i hi=>.inl (.inr hi)
  have hF3n:∀i,F3 i→i≠w.heap.size+1:=fun i hi e=>by
   rcases hF3 i hi with h1|h1
   ·rcases HF1C.o.2.2 _ h1 with h2|h2
    ·have:=hwl _ h2;omega
    ·omega
   ·omega
  refine⟨F3,hD3.keep hk2 fun i hi hh=>?_,HI.o.sm.keep hk2 fun i hi hh=>?_,?_,fun i hi=>?_⟩
  ·rcases hh with hh|hh
   ·exact hF3n i hi hh
   ·exact hnc i (hcel3 i hi) hh
  ·have h9:i=a:=hi
   rcases hh with hh|hh
   ·omega
   ·exact hnc a (cel_blk HI.o.sm.blk) (h9.symm.trans hh)
  ·have kA:Keep (fun i=>F i∨i=a) w ((w.alloc (.cells #[.pointer (some ⟨a,0,none⟩)] 76)).alloc (.cells #[.int .i64 0] 35)):=Keep.of_below L0.o
   have kB:=kA.trans HK1.o fun i hi=>.inl hi
   have kC:=kB.trans (Keep.of_below (F:=fun _=>False) HBR.o) fun i hi=>hi.elim
   have kD:=kC.trans HI.o.kp fun i hi=>by
    rcases hi with hi|hi|hi
    ·rcases HF1C.o.2.2 _ hi with h2|h2
     ·exact .inl (.inl h2)
     ·exact .inr (by omega)
    ·exact .inl (.inr hi)
    ·exact .inr (by omega)
   exact kD.trans hk2 fun i hi=>by
    rcases hi with hi|hi
    ·exact .inr (by omega)
    ·exact .inr (by omega)
  ·rcases hF3 i hi with h1|h1
   ·rcases HF1C.o.2.2 _ h1 with h2|h2
    ·exact .inl h2
    ·exact .inr (by omega)
   ·exact .inr (by omega)
 case stop=>
  rintro D cd pre W hD hsp hF hK
  exact hF.elim
end
end StoLd
namespace StoI1
open ImgT StgM StoV StoM StoK StoR
open RecM (blocks)
open ShaM (by256)
open ImgA (Im)
open ImgS (closed Qn closed_lt)
open Beq (nl)
open ImgP (head J7 head_lt)
open ImgF (fields two)
theorem nl_nat (xs:List Nat):(nl xs).map Int.toNat=xs:=by simp [nl,List.map_map,Function.comp_def]
theorem rd_head (i:Im) (hn:i.xs.length=i.n) (hr:ImgB.right i):rdI ((head i).drop 2)=igOf i:=by
 obtain⟨h1,h2,h3,h4,h5,h6,h7,h8⟩:=hr
 obtain⟨z,hz⟩:∃z,z=(head i).drop 2:=⟨_,rfl⟩
 have hf:=fields i hn
 rw [←hz] at hf ⊢
 have e1:q1 z=(i.p,NumB.putb i.v 2++(NumB.putb i.h 2++(NumB.putb i.m 1++(NumB.putb i.f 1++(NumB.putb i.s 1++(NumB.putb i.r 1++(NumB.putb (((nl i.xs).length:Nat):Int) 2++nl i.xs)))))),0):=by unfold q1;rw [hf];exact TxtR.T9 h1.1 (by omega) _
 have e2:q2 z=(i.v,NumB.putb i.h 2++(NumB.putb i.m 1++(NumB.putb i.f 1++(NumB.putb i.s 1++(NumB.putb i.r 1++(NumB.putb (((nl i.xs).length:Nat):Int) 2++nl i.xs))))),0):=by unfold q2;rw [e1];exact TxtR.rdN_p2 (by omega) h2.2 _
 have e3:q3 z=(i.h,NumB.putb i.m 1++(NumB.putb i.f 1++(NumB.putb i.s 1++(NumB.putb i.r 1++(NumB.putb (((nl i.xs).length:Nat):Int) 2++nl i.xs)))),0):=by unfold q3;rw [e2];exact TxtR.rdN_p2 h3.1 h3.2 _
 have e4:q4 z=(i.m,NumB.putb i.f 1++(NumB.putb i.s 1++(NumB.putb i.r 1++(NumB.putb (((nl i.xs).length:Nat):Int) 2++nl i.xs))),0):=by unfold q4;rw [e3];exact TxtR.T9 (by omega) (by omega) _
 have e5:q5 z=(i.f,NumB.putb i.s 1++(NumB.putb i.r 1++(NumB.putb (((nl i.xs).length:Nat):Int) 2++nl i.xs)),0):=by unfold q5;rw [e4];exact TxtR.T9 (by omega) (by omega) _
 have e6:q6 z=(i.s,NumB.putb i.r 1++(NumB.putb (((nl i.xs).length:Nat):Int) 2++nl i.xs),0):=by unfold q6;rw [e5];exact TxtR.T9 h6.1 (by omega) _
 have e7:q7 z=(i.r,NumB.putb (((nl i.xs).length:Nat):Int) 2++nl i.xs,0):=by unfold q7;rw [e6];exact TxtR.T9 h7.1 (by omega) _
 have e8:q8 z=(nl i.xs,[],0):=by unfold q8;rw [e7];exact TxtR.rtx_put (by rw [ImgS.Ww];omega)
 unfold rdI igOf
 rw [e1,e2,e3,e4,e5,e6,e7,e8]
 show Ig.mk _ _ _ _ _ _ _ ((nl i.xs).map Int.toNat) _=_
 rw [nl_nat]
 rfl
theorem qvy (i:Im) (hn:i.xs.length=i.n) (hr:ImgB.right i):iG (closed (head i))=igOf i:=by
 have hl:=Qn (head i)
 have ht:(closed (head i)).take ((closed (head i)).length-36)=head i:=by
  rw [hl,Nat.add_sub_cancel]
  unfold closed
  rw [List.append_assoc,List.take_left]
 have hd:=rd_head i hn hr
 unfold iG
 rw [ht,if_neg (by omega),if_neg (by simp),if_neg (by rw [two];simp),hd,if_neg (by show ¬((0:Int)≠0);simp)]
 refine if_pos ?_
 obtain⟨h1,h2,h3,h4,h5,h6,h7,h8⟩:=hr
 exact⟨h1,h2,h3,h4,h5,h6,h7,by show 1≤((i.xs.length:Nat):Int)∧((i.xs.length:Nat):Int)≤96;omega⟩
theorem ldI_len (i:Im) (hn:i.xs.length=i.n) (hr:ImgB.right i):1≤(closed (head i)).length∧(closed (head i)).length≤160:=by
 rw [Qn,J7]
 have:=hr.2.2.2.2.2.2.2
 omega
theorem ldI_ld (i:Im) (hn:i.xs.length=i.n) (hr:ImgB.right i):Ld (closed (head i)) 1 (blocks ((closed (head i)).length:Nat)) (ldI i):=
 ldx Rf.none (by omega) (ldI_len i hn hr) _ (Mr _)
theorem qvz (i:Im) (hn:i.xs.length=i.n) (hr:ImgB.right i):rY (ldI i)=(closed (head i),0):=ld_all (ldI_ld i hn hr) (ldI_len i hn hr)
section
variable {L:List Im} {n:Nat} {chk:Nat→Ig→Int→Int}
theorem di_make (h:∀p,p<n→(L.getD p im0).xs.length=(L.getD p im0).n∧ImgB.right (L.getD p im0)) (hc:∀p,p<n→chk p (igOf (L.getD p im0)) 0=0):DI n chk (mkD L):=fun p hp=>by
 have h1:=h p hp
 have hH:Hold chk (mkD L) p 0:=by
  have hY:rY (((mkD L).O p).x 0)=(closed (head (L.getD p im0)),0):=qvz _ h1.1 h1.2
  refine⟨by rw [hY],?_,rfl,hc p hp⟩
  rw [hY]
  exact qvy _ h1.1 h1.2
 exact⟨hH,hH⟩
theorem qw4 (h:∀p,p<n→(L.getD p im0).xs.length=(L.getD p im0).n∧ImgB.right (L.getD p im0)) (hn:n≤4):∀p,p<n→Okw p ((mkD L).O p):=fun p hp=>by
 have h1:=h p hp
 refine⟨?_,rfl,fun k hk=>?_⟩
 ·show RecM.Rc.right ⟨(p:Nat),1,0,0,0,0⟩
  exact CmtM.one_right (p:=p) (by omega)
 ·show Rf.wf (if k=0 then ldI (L.getD p im0) else Rf.none)
  split
  ·exact (ldI_ld _ h1.1 h1.2).wf
  ·exact Wk
end
end StoI1
namespace StoLd
open Go.Shelf Kit Byt Mem DskA RecM StgM CmtM StoM StoMk
open StgN (Sm DS Sgo)
open CmtN (Lm)
open ShaM (by256)
open ShaE (Tab)
open ImgA (Im)
open ImgS (closed closed_lt)
open ImgP (head head_lt)
theorem Ty:(Tryz.prog.info? 33).map (·.size)=some 8:=by kernel_rfl
def laid1 (s:St) (k:Nat) (i:Im):St×Int:=lF (pL s (pO s k 0) (closed (head i)) (blocks ((closed (head i)).length:Nat))).1 k
section
variable {w:World} {F:Nat→Prop} {g:Nat} {s:St} {N k:Nat} {O:Nat→Ow}
theorem G7 (hD:Dk w F g s) (h:Mk s N k O) (hk:k≤3) (hN:10*k+10≤N) (hT:Tab w) (i:Im) (ho:i.ok w) (hr:ImgB.right i) (hz:(laid1 s k i).2=0) :
 Calls Tryz.prog 29 #[.pointer (some ⟨g,0,none⟩),.int .i64 (k:Nat),i.val] w fun e w'=>e=.returned (.int .i64 0)∧∃F',Dk w' F' g (laid1 s k i).1∧Keep F w w'∧∀j,F' j→F j∨w.heap.size≤j:=by
 obtain⟨xs,hxs⟩:∃xs,xs=closed (head i):=⟨_,rfl⟩
 have hn:=StoI1.ldI_len i ho.len hr
 have hx:by256 xs:=by rw [hxs];exact closed_lt (head_lt ho.byt)
 unfold laid1 at hz ⊢
 rw [←hxs] at hn hz ⊢
 have hi:=h.inv hN (j:=0) (by omega)
 have ha:=pL_all (xs:=xs) hi h.free hx hn _ (Mr _)
 obtain⟨q,hq⟩:∃q,q=pL s (pO s k 0) xs (blocks (xs.length:Nat)):=⟨_,rfl⟩
 rw [←hq] at ha hz ⊢
 have hql:q.1.S.length=N:=by rw [ha.inv.o.1,h.len]
 have hLs:s.L=[]:=h.up.none_
 have hLq:q.1.L=[]:=ha.inv.up.none_
 have HPU:=Hz (fun w' (hb:Bw w w')=>(show Calls Tryz.prog 52 #[i.val] w' fun e w''=>∃b m d,e=.returned (.tuple #[.slice (some ⟨b,0,none⟩) m d,.int .i64 0])∧m=xs.length∧Rd w'' (some ⟨b,0,none⟩) m d (u8n xs)∧(w'.heap.size≤b∧b<w''.heap.size)∧Bw w' w'' from (ImgP.qzq i w' (hT.below hb hT.1) (ho.below hb) hr).mono fun e w'' ⟨B,m,d,he,hown,hbel⟩=>by
  rw [←hxs] at hown
  have hR:=Rd.own hown
  have hm:m=xs.length:=(Rd.nats hR).symm
  rcases hown.2 with⟨_,h0⟩|⟨gg,cap,cur,hv,hge,hh,_⟩
  ·omega
  ·simp only [Value.slice.injEq] at hv
   obtain⟨rfl,_,rfl⟩:=hv
   exact⟨gg,m,_,he,hm,hR,⟨hge,lt_of_block hh⟩,hbel⟩))
 have HSO:=Hz (fun w' (hb:Bw w w')=>(show Calls Tryz.prog 64 #[.pointer (some ⟨g,0,none⟩),.int .i64 (k:Nat),.int .i64 ((0:Nat):Int)] w' (fun e w''=>∃x,e=.returned (.tuple #[.pointer (some ⟨x,0,none⟩),.int .i64 0])∧Sm w'' (fun i=>i=x) x g (pO s k 0)∧w'.heap.size≤x∧Bw w' w'') from (StgN.Uw F g s k 0 w' (hD.below hb) hk (by omega) (by rw [h.len];omega) h.up.up (by rw [hLs];simp) h.byts).mono (fun e w'' ⟨a,J,h1,h2,h3,h4⟩=>⟨a,h1,⟨h2.blk,fun _=>Iff.rfl,h2.is,h2.ok⟩,h3 a ((h2.own a).2 rfl),h4⟩)))
 have HLO:=Hz (fun w' (a b c:Nat) (hD':Dk w' F g s) (hS:Sm w' (fun i=>i=a) a g (pO s k 0)) (haF : ¬F a) (hR:Rd w' (some ⟨b,0,none⟩) xs.length c (u8n xs)) (hbF : ¬F b) (hba:b≠a)=>Gn hD' hS haF ⟨hk,by show 0≤1;omega⟩ hi h.free b 0 c hR hbF hba hx hn)
 rw [←hq] at HLO
 have HFO:=Hz (fun w' F' (hD':Dk w' F' g q.1)=>(show Calls Tryz.prog 66 #[.pointer (some ⟨g,0,none⟩),.int .i64 (k:Nat)] w' fun e w''=>∃a F4,e=.returned (.tuple #[.pointer (some ⟨a,0,none⟩),.int .i64 0])∧Dk w'' F4 g (lF q.1 k).1∧Keep F' w' w''∧(∀i,F4 i→F' i∨w'.heap.size≤i) from (CmtN.qjm F' g q.1 k w' hD' hk (by omega) ha.inv.up.up (by rw [hLq];simp)).mono fun e w'' ⟨F4,h1,h2,h3,h4⟩=>by
  rcases h4 with⟨_,a4,J4,h5,_,_,_⟩|⟨h8,_⟩
  ·exact⟨a4,F4,h5,h1,h2,h3⟩
  ·rw [hz] at h8
   exact absurd h8 (by omega)))
 have HD:=Hz (fun w' (hb:Bw w w')=>hD.below hb)
 have HFW:=Hz hD.lt
 have L0:=Hz (show Bw w (w.alloc (.cells i.cells.toArray 33)) from (Mb _ _).alloc (Mr _) _)
 have B0:=Hz (show Blk (w.alloc (.cells i.cells.toArray 33)) w.heap.size 33 i.cells from Blk.new w _ _)
 clear hD h hk hN hT ho hr hi ha hql hLs hLq hx hxs hq
 obtain⟨p,v,hh,m,f,ss,r,A,n,c,ys⟩:=i
 show Calls _ _ #[_,_,.agg #[.int .i64 p,.int .i64 v,.int .i64 hh,.int .i64 m,.int .i64 f,.int .i64 ss,.int .i64 r,.slice A n c]] w _
 go_enter Tryz.func29,Tryz.ntmps29
 go_wp2_with (first
  | (refine Qj rfl 33 (.tmp 5) rfl w.heap.size rfl (show Blk _ w.heap.size 33 [.int .i64 p,.int .i64 v,.int .i64 hh,.int .i64 m,.int .i64 f,.int .i64 ss,.int .i64 r,.slice A n c] from B0.o) Tryz.underlying33 rfl Ty ?_)
  | (go_at_call 52;refine (HPU.o _ L0.o).mono ?_;rintro e w1 ⟨b,m1,d1,rfl,rfl,hR1,hb1,hbe1⟩;have L1:=Hz (L0.o.trans (hbe1.mono L0.o.size));have R1:=Hz (And.intro hR1 hb1);clear hbe1 hR1 hb1)
  | (go_at_call 64;refine (HSO.o _ L1.o).mono ?_;rintro e w2 ⟨a,rfl,hm2,ha2,hb2⟩;have L2:=Hz (L1.o.trans (hb2.mono L1.o.size));have E2:=Hz hb2;have S2:=Hz (And.intro hm2 ha2);clear hb2 hm2 ha2))
 have hl0:=L0.o.size
 have hl1:=L1.o.size
 have hb1:=R1.o.2
 have ha2:=S2.o.2
 rw [Ms] at hb1
 have hFl:=HFW.o
 refine (HLO.o w2 a b d1 (HD.o w2 L2.o) S2.o.1 (fun hh=>by have:=hFl _ hh;omega) (R1.o.1.below E2.o) (fun hh=>by have:=hFl _ hh;omega) (by omega)).mono ?_
 rintro e w3 ⟨rfl,F3,hD3,_,hk3,hF3⟩
 have K3:=Hz ((Keep.of_below L2.o:Keep (fun i=>F i∨i=a) w w2).trans hk3 fun i hi=>.inl hi)
 have F3w:=Hz hF3
 have D3:=Hz (HFO.o w3 F3 hD3)
 clear hk3 hD3 hF3
 clear hFl hz hn HLO HSO HPU HD
 go_wp2_with (go_at_call 66;refine D3.o.mono ?_;rintro e w4 ⟨a4,F4,rfl,hD4,hk4,hF4⟩;have D4:=Hz (And.intro hD4 (And.intro hk4 hF4));clear hD4 hk4 hF4)
 go_ret
 refine⟨rfl,F4,D4.o.1,?_,fun i hi=>?_⟩
 ·have k4:=K3.o.trans D4.o.2.1 fun i hi=>by
   rcases F3w.o i hi with h1|h1
   ·exact .inl (.inl h1)
   ·exact .inr (by have:=L2.o.size;omega)
  exact⟨k4.os,k4.tape,k4.output,k4.size,fun i hi hn=>k4.block i hi fun hh=>by
   rcases hh with hh|hh
   ·exact hn hh
   ·omega⟩
 ·rcases D4.o.2.2 i hi with h1|h1
  ·rcases F3w.o i h1 with h2|h2
   ·exact .inl h2
   ·exact .inr (by have:=L2.o.size;omega)
  ·exact .inr (by have:=K3.o.size;omega)
end
end StoLd
namespace StoN
open Kit Byt DskA RecM StgM CmtM StoM StoW
open StgN (Sm DS Sgo)
open CmtN (Lm LS Lgo)
open TabA (Tri Tris Ta)
open RecA (rval rcells rok sval scells sok n64)
open TabB (Yes)
open ImgT (Ig)
theorem qv0 (s:St) (l:Lg) {r r':Rc} (h1:r.a=r'.a) (h2:r.c=r'.c) (h3:r.l=r'.l) (h4:r.b=r'.b):lS s l r=lS s l r':=by
 have e:nextR l.r r=nextR l.r r':=by unfold nextR;rw [h1,h2,h3,h4]
 have e2:nx l.r r=nx l.r r':=by unfold nx;rw [e]
 unfold lS
 rw [e,e2]
section
variable {w:World} {F:Nat→Prop} {ζ:Nat→Zl} {g n p:Nat} {s:St} {t:Ta} {P:Nat→Pt} {Z:Lo} {O:Nat→Ow} {chk:Nat→Ig→Int→Int} {T:Int}
def Kgo (F:Nat→Prop) (ζ:Nat→Zl) (g:Nat) (t:Ta) (n:Nat) (Z:Lo) (w:World) (r:Ks):Ending→World→Prop:=An r.2.2 (Zgo F ζ g t n Z w r.1 r.2.1)
theorem Kgo.still (h:DZ w F ζ g s t n P Z) {x:Int} {e:Ending} {w':World} (ha:An x (Bw w) e w'):Kgo F ζ g t n Z w (s,P,x) e w':=⟨ha.1,h.still ha.2⟩
theorem Kl {c:Sa} {x:Int} (e:sA s ((P p).t (ksp (P p))) c=(s,(P p).t (ksp (P p)),x)):kslot s P p c=(s,P,x):=by
 unfold kslot
 rw [e]
 show (s,upd P p { P p with t:=upd (P p).t (ksp (P p)) ((P p).t (ksp (P p))) },x)=_
 rw [Vj,Vj]
theorem begin_k (h:DZ w F ζ g s t n P Z) (a:Au n s P O) (q ses z:Int) (hs:n64 ses) (hz:n64 z) :
 Calls Tryz.prog 21 #[.pointer (some ⟨Z.z,0,none⟩),.int .i64 q,.int .i64 ses,.int .i64 z] w (Kgo F ζ g t n Z w (kDo n T chk s P ⟨0,q,ses,z,0,[]⟩)):=by
 have e:kDo n T chk s P ⟨0,q,ses,z,0,[]⟩=if kfr n P q≠0 then (s,P,kfr n P q) else kslot s P q.toNat ⟨0,ses,z,0,[]⟩:=by unfold kDo;rw [if_pos rfl]
 rw [e]
 by_cases h1:kfr n P q≠0
 ·rw [if_pos h1]
  exact (begin_no _ q ses z h1 (un_no h q h1)).mono fun _ _ hh=>Kgo.still h hh
 rw [if_neg h1]
 obtain⟨p,rfl,hp,ha⟩:=kfr_0 (Mc_ h1)
 rw [show ((p:Int)).toNat=p from by omega]
 have hsk:sok ⟨ses,z,0⟩:=⟨hs,hz,⟨by show -9223372036854775808≤(0:Int);omega,by show (0:Int)≤9223372036854775807;omega⟩⟩
 have hsA:sA s ((P p).t (ksp (P p))) ⟨0,ses,z,0,[]⟩=pB s ((P p).t (ksp (P p))) ses z:=by unfold sA;rw [if_pos rfl]
 by_cases hr:(fresh ses z).right
 ·have h2:∀w',Bw w w'→Calls Tryz.prog 47 #[.agg #[.int .i64 ses,.int .i64 z,.int .i64 0]] w' fun e w''=>e=.returned (.bool true)∧Bw w' w'':=fun w' _=>RecI.rights_any ⟨ses,z,0⟩ w' hsk true ⟨fun _=>hr,fun _=>rfl⟩
  cases hd:s.down with
  | true=>
    have ek:kslot s P p ⟨0,ses,z,0,[]⟩=(s,P,8):=Kl (by
     rw [hsA]
     unfold pB
     rw [if_pos hr,Tx hd,if_neg (show ¬((s,(8:Int)).2=0) from by show ¬(8:Int)=0;omega)])
    rw [ek]
    exact begin_8 (x:=8) _ _ ses z (by omega) (un_ok h hp ha) h2 (hr_dn h a hd hp)
  | false=>
    refine qww _ _ ses z (un_ok h hp ha) h2 (hr_up h a hd hp) (ldd_at h hp (a.hc hp).2) fun w' hw=>?_
    have h':=h.below hw
    refine (StgN.begin_any F _ g _ s ((P p).t (ksp (P p))) ses z w' (h'.ds hp (ksp_le _)) hs hz).mono fun e w2 hg=>?_
    obtain⟨he,hz'⟩:=h'.sgo hp (ksp_le _) hg
    unfold kslot
    rw [hsA]
    exact⟨he,hz'.from hw⟩
 ·have ek:kslot s P p ⟨0,ses,z,0,[]⟩=(s,P,3):=Kl (by
   rw [hsA]
   unfold pB
   rw [if_neg hr])
  rw [ek]
  exact (begin_3 _ _ ses z (un_ok h hp ha) fun w' _=>RecI.rights_any ⟨ses,z,0⟩ w' hsk false ⟨fun e=>(by cases e),fun e=>absurd e hr⟩).mono fun _ _ hh=>Kgo.still h hh
theorem load_k (h:DZ w F ζ g s t n P Z) (a:Au n s P O) (q ses no:Int) (hs:n64 ses) (hno:n64 no) (D:Option Addr) (m d:Nat) (xs:List Nat) (hR:Rd w D m d (u8n xs)) (hb:byt xs) (hD:∀b o,D=some ⟨b,o,none⟩→¬F b∧ζ b=.out) :
 Calls Tryz.prog 22 #[.pointer (some ⟨Z.z,0,none⟩),.int .i64 q,.int .i64 ses,.int .i64 no,.slice D m d] w (Kgo F ζ g t n Z w (kDo n T chk s P ⟨1,q,ses,0,no,xs⟩)):=by
 have e:kDo n T chk s P ⟨1,q,ses,0,no,xs⟩=if kfr n P q≠0 then (s,P,kfr n P q) else kslot s P q.toNat ⟨1,ses,0,no,xs⟩:=by unfold kDo;rw [if_neg (by show ¬(1:Nat)=0;omega),if_pos rfl]
 rw [e]
 by_cases h1:kfr n P q≠0
 ·rw [if_pos h1]
  exact (put_no _ q ses no D m d h1 (un_no h q h1)).mono fun _ _ hh=>Kgo.still h hh
 rw [if_neg h1]
 obtain⟨p,rfl,hp,ha⟩:=kfr_0 (Mc_ h1)
 rw [show ((p:Int)).toNat=p from by omega]
 have hsA:sA s ((P p).t (ksp (P p))) ⟨1,ses,0,no,xs⟩=pP s ((P p).t (ksp (P p))) ses no xs:=by unfold sA;rw [if_neg (by show ¬(1:Nat)=0;omega),if_pos rfl]
 refine put_go _ _ ses no D m d (un_ok h hp ha) (ldd_at h hp (a.hc hp).2) fun w' hw=>?_
 have h':=h.below hw
 refine (StgN.put_any F _ g _ s ((P p).t (ksp (P p))) ses no D m d xs w' (h'.ds hp (ksp_le _)) hs hno (a.right hp (ksp_le _)) (hR.below hw) hb fun b o eD=>⟨(hD b o eD).1,fun hi=>?_⟩).mono fun e w2 hg=>?_
 ·have h7:=(hD b o eD).2
  rw [show b=Z.sa p (ksp (P p)) from hi,h.zm.rs p hp _ (ksp_le _)] at h7
  cases h7
 ·obtain⟨he,hz'⟩:=h'.sgo hp (ksp_le _) hg
  unfold kslot
  rw [hsA]
  exact⟨he,hz'.from hw⟩
theorem save_k (h:DZ w F ζ g s t n P Z) (a:Au n s P O) (hp:p<n) (r r':Rc) (hr:rok r) (h1:r.a=r'.a) (h2:r.c=r'.c) (h3:r.l=r'.l) (h4:r.b=r'.b) (w':World) (hw:Bw w w') :
 Calls Tryz.prog 57 #[.pointer (some ⟨Z.la p,0,none⟩),rval r] w' (Kgo F ζ g t n Z w (ksave s P p r')):=by
 have h':=h.below hw
 have hrc:=a.rc hp
 refine (CmtN.qqt F _ g _ s (P p).l r w' (h'.ls hp ⟨hrc.1,by rw [hrc.2.1,hrc.2.2.1],hrc.2.2.2⟩) hr).mono fun e w2 hg=>?_
 obtain⟨he,hz'⟩:=h'.lgo hp hg
 unfold ksave
 rw [←qv0 s (P p).l h1 h2 h3 h4]
 exact⟨he,hz'.from hw⟩
end
end StoN
namespace StoN
open Kit Byt DskA StgM StoM StoV StoW
open StgN (Sm DS Sgo)
open CmtN (Lm LS Lgo)
open TabA (Tri Tris Ta)
open RecA (rval rcells rok sval scells sok n64)
open ImgT (Ig iG iG_ok)
open ImgU (Gi)
open ShaE (Tab)
open StoCk (ck)
theorem n64z:n64 (0:Int):=⟨by decide,by decide⟩
theorem kim_0 {s:St} {u:Slt} (h:(kim s u).e=0):(pY s u).2=0∧kim s u=iG (pY s u).1:=by
 unfold kim at h ⊢
 by_cases e:(pY s u).2=0
 ·exact⟨e,if_pos e⟩
 ·rw [if_neg e] at h
  exact absurd h e
theorem pY_up {s:St} {u:Slt} (h:(pY s u).2=0):s.down=false:=by
 unfold pY at h
 split at h
 ·exact absurd h (by show ¬(16:Int)=0;omega)
 ·split at h
  ·exact absurd h (by show ¬(11:Int)=0;omega)
  ·split at h
   ·exact absurd h (by show ¬(8:Int)=0;omega)
   ·rename_i hd
    simpa using hd
section
variable {w:World} {F:Nat→Prop} {ζ:Nat→Zl} {g n p:Nat} {s:St} {t:Ta} {P:Nat→Pt} {Z:Lo} {O:Nat→Ow}
theorem sel_at (Z:Lo) (p:Nat) {k:Nat} (hk:k≤1):k=0∧Z.sa p k=Z.sa p 0∨k=1∧Z.sa p k=Z.sa p 1:=by
 rcases (show k=0∨k=1 from by omega) with rfl|rfl
 ·exact .inl ⟨rfl,rfl⟩
 ·exact .inr ⟨rfl,rfl⟩
theorem qv1 (h:DZ w F ζ g s t n P Z) (a:Au n s P O) (hT:Tab w) (hp:p<n) {k:Nat} (hk:k≤1):Img w (Z.sa p 0) (Z.sa p 1) (k:Nat) (kim s ((P p).t k)):=
 img_at (h.ds hp hk) hT (a.right hp hk) a.byts k (sel_at Z p hk)
theorem ksp_int (a:Au n s P O) (hp:p<n):((ksp (P p):Nat):Int)=1-(P p).l.r.c:=by
 have h:=(a.hc hp).2
 unfold ksp
 split <;> omega
theorem sl_int {x:Int} (h:0≤x∧x≤1):((sl x:Nat):Int)=x∧sl x≤1:=by unfold sl;omega
theorem seal_k (h:DZ w F ζ g s t n P Z) (a:Au n s P O) (hT:Tab w) (hrun:s.down=false→∀p,p<n→(kim s ((P p).t (sl (P p).l.r.a))).e=0) (q ses:Int) :
 Calls Tryz.prog 24 #[.pointer (some ⟨Z.z,0,none⟩),.int .i64 q,.int .i64 ses] w (Kgo F ζ g t n Z w (kDo n t.tr (ck t) s P ⟨2,q,ses,0,0,[]⟩)):=by
 have e:kDo n t.tr (ck t) s P ⟨2,q,ses,0,0,[]⟩=kseal n t.tr (ck t) s P q ses:=by unfold kDo;rw [if_neg (by show ¬(2:Nat)=0;omega),if_neg (by show ¬(2:Nat)=1;omega),if_pos rfl]
 rw [e]
 unfold kseal
 by_cases h1:kbg n P q ses≠0
 ·rw [if_pos h1]
  exact (seal_no _ q ses h1 (sd_no h a q ses h1)).mono fun _ _ hh=>Kgo.still h hh
 rw [if_neg h1]
 obtain⟨p,rfl,hp,hac,h2,h3⟩:=kbg_0 (Mc_ h1)
 rw [show ((p:Int)).toNat=p from by omega]
 have hsd:=sd_ok h a ses hp hac h2 h3
 have hc:=a.hc hp
 have hki:=ksp_int a hp
 have hn4:=h.zm.n4
 obtain⟨r,hr⟩:∃r,r=(P p).l.r:=⟨_,rfl⟩
 obtain⟨r0,r1,ra,rc,r4,r5⟩:=r
 have hra:(P p).l.r.a=ra:=by rw [←hr]
 have hrc:(P p).l.r.c=rc:=by rw [←hr]
 rw [hra,hrc] at hac hc
 rw [hrc] at hki
 have hlat:=lat_of h hp _ _ _ _ _ _ hr.symm
 have hks:(1-ra:Int)=((ksp (P p):Nat):Int):=by omega
 have himg:=qv1 h a hT hp (ksp_le (P p))
 rw [←hks] at himg
 have hg:kgot s P p=pY s ((P p).t (ksp (P p))):=rfl
 have hkim:kim s ((P p).t (ksp (P p)))=if (kgot s P p).2=0 then iG (kgot s P p).1 else Ig.no (kgot s P p).2:=rfl
 by_cases h4:(kgot s P p).2≠0
 ·rw [if_pos h4]
  have he:(kim s ((P p).t (ksp (P p)))).e=(kgot s P p).2:=by rw [hkim,if_neg h4];rfl
  have:=seal_bytes _ _ ses r0 r1 ra rc r4 r5 hc.1 _ (by rw [he];exact h4) hsd hlat himg
  rw [he] at this
  exact this.mono fun _ _ hh=>Kgo.still h hh
 rw [if_neg h4]
 have h4':(kgot s P p).2=0:=Mc_ h4
 rw [if_pos h4'] at hkim
 rw [hkim] at himg
 by_cases h5:(iG (kgot s P p).1).e≠0
 ·rw [if_pos h5]
  exact (seal_bytes _ _ ses r0 r1 ra rc r4 r5 hc.1 _ h5 hsd hlat himg).mono fun _ _ hh=>Kgo.still h hh
 rw [if_neg h5]
 have h5':(iG (kgot s P p).1).e=0:=Mc_ h5
 have hu:s.down=false:=pY_up (by rw [←hg];exact h4')
 have hje:=hrun hu p hp
 have hsl:=sl_int hc.1
 rw [hra] at hje
 have hj0:=kim_0 hje
 have hjr:kruns s P p=kim s ((P p).t (sl ra)):=by
  unfold kruns
  rw [hra]
  exact hj0.2.symm
 have himj:=qv1 h a hT hp hsl.2
 rw [hsl.1] at himj
 have hjv:1≤(kim s ((P p).t (sl ra))).v∧(kim s ((P p).t (sl ra))).v≤65535:=by
  have h6:=iG_ok (ys:=(pY s ((P p).t (sl ra))).1) (by rw [←hj0.2];exact hje)
  rw [←hj0.2] at h6
  exact h6.1.2.1
 rw [hjr]
 have hby:=kim_by a.byts ((P p).t (ksp (P p))) (a.right hp (ksp_le _))
 rw [hkim] at hby
 obtain⟨i,hi⟩:∃i,i=iG (kgot s P p).1:=⟨_,rfl⟩
 rw [←hi] at himg h5' hby ⊢
 obtain⟨j,hj⟩:∃j,j=kim s ((P p).t (sl ra)):=⟨_,rfl⟩
 rw [←hj] at hje himj hjv ⊢
 have hck:∀w',Bw w w'→∀B m c,Rd w' B m c (u8n i.xs)→Calls Tryz.prog 28 #[t.val,.int .i64 (p:Nat),.agg #[.int .i64 i.p,.int .i64 i.v,.int .i64 i.h,.int .i64 i.m,.int .i64 i.f,.int .i64 i.s,.int .i64 i.r,.slice B m c],.int .i64 j.v] w' fun e w''=>e=.returned (.int .i64 (ck t p i j.v))∧Bw w' w'':=fun w' hw B m c hR=>
  StoCk.qqw (h.zm.tok.below hw) p (by omega) i j.v ⟨by omega,by omega⟩ B m c hR hby
 by_cases h7:ck t p i j.v≠0
 ·rw [if_pos h7]
  exact (seal_check Z.z Z.pb n Z.pc t _ ses r0 r1 ra rc r4 r5 hc.1 i j h5' hje h.zm.head hsd hlat himg himj hck h7).mono fun _ _ hh=>Kgo.still h hh
 rw [if_neg h7]
 have h7':ck t p i j.v=0:=Mc_ h7
 rw [h7'] at hck
 refine seal_go Z.z Z.pb n Z.pc t _ ses r0 r1 ra rc r4 r5 hc.1 i j h5' hje h.zm.head hsd hlat himg himj hck (fun w' hw=>?_) fun w' hw=>?_
 ·rw [hks]
  have hlen:=h.len
  refine Xx (Z.la p) (Z.sa p 0) (Z.sa p 1) (ksp (P p)) (Z.sa p (ksp (P p))) (sel_at Z p (ksp_le _)) r0 r1 ra rc r4 r5 _ _ _ _ ((P p).t (ksp (P p))).has (fun w2 hb=>hlat w2 (hw.trans (hb.mono hw.size))) (fun w2 hb=>qqz h hp (ksp_le _) w2 (hw.trans (hb.mono hw.size))) fun w2 hb=>?_
  have hb2:=hw.trans (hb.mono hw.size)
  have hr0:r0=(p:Nat):=by have:=(a.rc hp).2.1;rw [←hr] at this;exact this
  have hkl:=ksp_le (P p)
  rw [hr0]
  refine (StgN.Uw F g s p (ksp (P p)) w2 (h.dk.below hb2) (by omega) hkl (by omega) hu h.most a.byts).mono fun e w3 ⟨x,J,e1,e2,_,e4⟩=>⟨x,e1,e4,fun w4 hb4=>?_⟩
  have hS:=e2.below hb4
  rw [a.po hu hp hkl] at hS
  exact StgN.Yj _ g x ((P p).t (ksp (P p))) w4 hS fun hh=>Mc_ fun e=>by
   have:=hS.is.2 e
   rw [hh] at this
   cases this
 ·refine save_k h a hp ⟨0,0,1-ra,rc,t.tr,0⟩ (ksealR t.tr P p) ⟨n64z,n64z,⟨by show -9223372036854775808≤1-ra;omega,by show 1-ra≤9223372036854775807;omega⟩,⟨by show -9223372036854775808≤rc;omega,by show rc≤9223372036854775807;omega⟩,⟨h.zm.tok.t0,h.zm.tok.t1⟩,n64z⟩ ?_ ?_ rfl rfl w' hw
  ·exact hks
  ·exact hrc.symm
end
end StoN
namespace StoLd
open Go.Shelf Mem DskA StgM StgQ StgJ CmtM StoM StoV StoMk StoN
open StgN (Sm DS Sgo)
open CmtN (Lm)
open ShaM (by256)
open ShaE (Tab)
open ImgA (Im)
open ImgT (Ig iG)
open ImgS (closed closed_lt)
open ImgP (head head_lt)
open StoR (Ims im0 igOf mkD)
open StoCk (ck)
open TabA (Ta)
def sM (s:St) (L:List Im):Nat→St
 | 0=>s
 | k+1=>(laid1 (sM s L k) k (L.getD k im0)).1
structure Mf (w0:World) (t:Ta) (L:List Im) (A0:Option Addr) (n c0:Nat):Prop where
 ht:t.ok w0
 hr:TabD.right t
 hT:Tab w0
 hI:Ims w0 A0 n c0 L
 hn:n=t.n1
 ri:∀p,p<n→ImgB.right (L.getD p im0)
 hc:∀p,p<n→ck t p (igOf (L.getD p im0)) 0=0
section
variable {w0:World} {t:Ta} {L:List Im} {A0:Option Addr} {n c0 N:Nat} {s:St}
theorem Mf.n4 (m:Mf w0 t L A0 n c0):2≤n∧n≤4:=by have h1:=m.ht.P.1;have h2:=m.hr.2.2.1.1;have:=m.hn;omega
theorem Mf.mem (m:Mf w0 t L A0 n c0) {k:Nat} (hk:k<n):L.getD k im0 ∈ L:=by
 rw [Mg,Mq (by rw [m.hI.len];exact hk)]
 exact Me_ _
theorem Mf.im (m:Mf w0 t L A0 n c0) {k:Nat} (hk:k<n):(L.getD k im0).ok w0:=m.hI.ok _ (m.mem hk)
theorem Mf.okw (m:Mf w0 t L A0 n c0):∀p,p<n→Okw p ((mkD L).O p):=StoI1.qw4 (fun p hp=>⟨(m.im hp).len,m.ri p hp⟩) m.n4.2
theorem Mf.di (m:Mf w0 t L A0 n c0):DI n (ck t) (mkD L):=StoI1.di_make (fun p hp=>⟨(m.im hp).len,m.ri p hp⟩) m.hc
theorem Mf.mks (m:Mf w0 t L A0 n c0) (h:Mk s N 0 (mkD L).O) (hN:10*n≤N):∀k,k≤n→Mk (sM s L k) N k (mkD L).O∧(k<n→(laid1 (sM s L k) k (L.getD k im0)).2=0)
 | 0,_=>by
   have hn4:=m.n4
   exact⟨h,fun h0=>(Mk.next (xs:=closed (head (L.getD 0 im0))) h (by omega) (by omega) (closed_lt (head_lt (m.im h0).byt)) (StoI1.ldI_len _ (m.im h0).len (m.ri _ h0)) (m.okw 0 h0) rfl rfl rfl).1⟩
 | k+1,hk=>by
   have hn4:=m.n4
   have hk0:k<n:=by omega
   have h1:=(m.mks h hN k (by omega)).1
   have h2:=(Mk.next (xs:=closed (head (L.getD k im0))) h1 (by omega) (by omega) (closed_lt (head_lt (m.im hk0).byt)) (StoI1.ldI_len _ (m.im hk0).len (m.ri _ hk0)) (m.okw k hk0) rfl rfl rfl).2
   exact⟨h2,fun h0=>(Mk.next (xs:=closed (head (L.getD (k+1) im0))) h2 (by omega) (by omega) (closed_lt (head_lt (m.im h0).byt)) (StoI1.ldI_len _ (m.im h0).len (m.ri _ h0)) (m.okw (k+1) h0) rfl rfl rfl).1⟩
end
section
variable {s:St} {n p k:Nat} {P:Nat→Pt} {O:Nat→Ow} {D:Dc} {chk:Nat→Ig→Int→Int}
theorem qv2 (h:SU s n P D.O) (hp:p<n) (hk:k≤1) (hh:Hold chk D p k):kim s ((P p).t k)=D.I p k:=by
 have e:=qqe (h.inv hp hk)
 unfold kim
 rw [e,if_pos hh.got,hh.is]
theorem su_q (h:SU s n P O) (hp:p<n):1≤(P p).l.r.q:=by
 rw [(h.pt p hp).lr]
 exact (h.ok p hp).right.1.2.1.1
end
def Opd (w0 wN:World) (G:Nat→Prop) (g:Nat) (t:Ta) (n:Nat) (D:Dc) (e:Ending) (w':World):Prop:=
 ∃F ζ Z t' s,e=.returned (.tuple #[.pointer (some ⟨Z.z,0,none⟩),.int .i64 0])∧DZ w' F ζ g s t' n (opn s) Z∧SU s n (opn s) D.O∧Free s∧(t'.fr=t.fr∧t'.tr=t.tr∧t'.P=t.P∧t'.W=t.W∧t'.C=t.C∧t'.n1=t.n1)∧(∀i,F i→w0.heap.size≤i∧G i)∧(∀i,ζ i≠.out→wN.heap.size≤i)∧Bw w0 w'∧Bw wN w'
theorem Opd.low {w0 w w':World} {G:Nat→Prop} {g:Nat} {t:Ta} {n:Nat} {D:Dc} {e:Ending} (h:Opd w0 w G g t n D e w') (hb:Bw w0 w):Opd w0 w0 (fun _=>True) g t n D e w':=by
 obtain⟨F,ζ,Z,t',s,he,hz,hS,hf,hk,hF,hζ,hb0,_⟩:=h
 exact⟨F,ζ,Z,t',s,he,hz,hS,hf,hk,fun i hi=>⟨(hF i hi).1,trivial⟩,fun i hi=>Ml hb.size (hζ i hi),hb0,hb0⟩
section
variable {w0 w:World} {F:Nat→Prop} {g:Nat} {s:St} {t:Ta} {n:Nat} {D:Dc}
theorem opd_any (hb:Bw w0 w) (hF:∀i,F i→w0.heap.size≤i) (hD:Dk w F g s) (ht:t.ok w0) (hr:TabD.right t) (hT:Tab w0) (hn:n=t.n1) (hS:SU s n (opn s) D.O) (hf:Free s) (hI:DI n (ck t) D) :
 Calls Tryz.prog 7 #[.pointer (some ⟨g,0,none⟩),t.val] w (Opd w0 w F g t n D):=by
 have hx:=fun p k=>hb_ex s t p (pO s p k)
 obtain⟨bq,hbq⟩:∃bq:Nat→Nat→Bool,∀p k,Hb s t p (pO s p k) (bq p k):=⟨fun p k=>Classical.choose (hx p k),fun p k=>Classical.choose_spec (hx p k)⟩
 have hL:s.L=[]:=hS.up.none_
 have hh:∀p,p<n→∀k,k≤1→Hold (ck t) D p k→bq p k=true:=fun p hp k hk h=>by
  have e:kim s (pO s p k)=D.I p k:=qv2 hS hp hk h
  exact (hbq p k).2 (by rw [e];exact⟨h.ok,h.fit⟩)
 refine (sopen_any hD (ht.below hb) hr (by rw [←hn];exact hS.len) hS.up.up (by rw [hL];simp) hS.byts (hT.below hb hT.1) (fun p hp=>su_q hS (by rw [hn];exact hp)) bq (fun p _ k _=>hbq p k)).mono ?_
 rintro e w' ⟨h1,_⟩
 obtain⟨ζ,Z,t',he,hz,hk,hnew,hbel⟩:=h1 (fun p hp=>by
  have hp':p<n:=by rw [hn];exact hp
  have h2:=hI p hp'
  have h3:(lO s p).r=(D.O p).r:=(hS.pt p hp').lr
  rw [h3]
  have hr0:=(hS.ok p hp').right.1
  have ha:=sl_int hr0.2.2.1
  have hc:=sl_int hr0.2.2.2
  exact⟨hh p hp' _ ha.2 h2.1,hh p hp' _ hc.2 h2.2⟩)
 have hFl:=hD.lt
 rw [←hn] at hz
 refine⟨F,ζ,Z,t',s,he,⟨hD.below hbel,hz,fun i hi=>?_,by rw [hL];simp,hS.len,fun p hp=>?_⟩,hS,hf,⟨hk.fr,hk.tr,hk.P,hk.W,hk.C,hk.n1⟩,fun i hi=>⟨hF i hi,hi⟩,hnew,hb.trans (hbel.mono hb.size),hbel⟩
 ·exact Mc_ fun h=>by have:=hFl i hi;have:=hnew i h;omega
 ·have h4:=hS.pt p hp
  exact⟨h4.lp,fun k hk=>by rw [h4.t k hk];exact⟨rfl,rfl⟩⟩
end
structure Mi (w0:World) (g:Nat) (s:St) (t:Ta) (L:List Im) (tb:Nat) (k:Nat) (wr:World):Prop where
 dk:∃F,Dk wr F g (sM s L k)∧∀i,F i→w0.heap.size≤i∧i≠tb
 bel:Bw w0 wr
 tb:Blk wr tb 26 t.cells
theorem Mi.below {w0 wr w':World} {g tb k:Nat} {s:St} {t:Ta} {L:List Im} (h:Mi w0 g s t L tb k wr) (hb:Bw wr w'):Mi w0 g s t L tb k w':=by
 obtain⟨F,h1,h2⟩:=h.dk
 exact⟨⟨F,h1.below hb,h2⟩,h.bel.trans (hb.mono h.bel.size),h.tb.below hb⟩
theorem Mi.next {w0 wr w':World} {g tb k:Nat} {s:St} {t:Ta} {L:List Im} {F F':Nat→Prop} (h:Mi w0 g s t L tb k wr) (hF:∀i,F i→w0.heap.size≤i∧i≠tb) (h1:Dk w' F' g (sM s L (k+1))) (h2:Keep F wr w') (h3:∀j,F' j→F j∨wr.heap.size≤j):Mi w0 g s t L tb (k+1) w':=
 ⟨⟨F',h1,fun i hi=>by
   rcases h3 i hi with h4|h4
   ·exact hF i h4
   ·have:=h.bel.size
    have:=h.tb.lt
    omega⟩,h.bel.trans (h2.below (fun k hk=>(hF k hk).1) h.bel.size),h2.blk h.tb fun hh=>(hF _ hh).2 rfl⟩
theorem Jy:(Tryz.prog.info? 26).map (·.size)=some 5:=by kernel_rfl
section
variable {w0 w:World} {F:Nat→Prop} {g:Nat} {s:St} {t:Ta} {L:List Im} {A0:Option Addr} {n c0:Nat}
theorem qw5 (m:Mf w0 t L A0 n c0) (hb:Bw w0 w) (hF:∀i,F i→w0.heap.size≤i) (hD:Dk w F g s) (hM:Mk s s.S.length 0 (mkD L).O) (hN:10*n≤s.S.length) :
 Calls Tryz.prog 6 #[.pointer (some ⟨g,0,none⟩),t.val,.slice A0 n c0] w (Opd w0 w0 (fun _=>True) g t n (mkD L)):=by
 have hn4:=m.n4
 obtain⟨hn4a,hn4b⟩:=hn4
 have hMk:=fun k hk=>m.mks hM hN k hk
 have hFw:=hD.lt
 have HRM:=Hz (fun w' (hb':Bw w w')=>(show Calls Tryz.prog 27 #[.pointer (some ⟨g,0,none⟩),t.val] w' fun e w''=>e=.returned (.int .i64 0)∧Bw w' w'' from Ht (hD.below hb') (m.ht.below (hb.trans (hb'.mono hb.size))) m.hr false ⟨fun h=>(by cases h),fun h=>(by have:=m.hn;omega)⟩))
 have HCK:=Hz (fun k (hk:k<n) w' (hb':Bw w0 w')=>(show Calls Tryz.prog 28 #[t.val,.int .i64 (k:Nat),(L.getD k im0).val,.int .i64 0] w' fun e w''=>e=.returned (.int .i64 0)∧Bw w' w'' from by
  have h:=StoCk.qqw (m.ht.below hb') k (by omega) (igOf (L.getD k im0)) 0 ⟨by decide,by decide⟩ (L.getD k im0).A (L.getD k im0).n (L.getD k im0).c ((m.im hk).below hb').code (m.im hk).byt
  rw [m.hc k hk] at h
  exact h))
 have HLY:=Hz (fun k (hk:k<n) F' w' (hb':Bw w0 w') (hD':Dk w' F' g (sM s L k))=>(show Calls Tryz.prog 29 #[.pointer (some ⟨g,0,none⟩),.int .i64 (k:Nat),(L.getD k im0).val] w' fun e w''=>e=.returned (.int .i64 0)∧∃F'',Dk w'' F'' g (sM s L (k+1))∧Keep F' w' w''∧∀j,F'' j→F' j∨w'.heap.size≤j from
  G7 hD' (hMk k (by omega)).1 (by omega) (by omega) (m.hT.below hb' m.hT.1) (L.getD k im0) ((m.im hk).below hb') (m.ri k hk) ((hMk k (by omega)).2 hk)))
 have HOP:=Hz (fun F' w' (hb':Bw w0 w') (hF':∀i,F' i→w0.heap.size≤i) (hD':Dk w' F' g (sM s L n))=>(show Calls Tryz.prog 7 #[.pointer (some ⟨g,0,none⟩),t.val] w' (Opd w0 w0 (fun _=>True) g t n (mkD L)) from (opd_any (F:=F') hb' hF' hD' m.ht m.hr m.hT m.hn ((hMk n (Mr _)).1.su hn4b hN) (hMk n (Mr _)).1.free m.di).mono fun _ _ hh=>hh.low hb'))
 have HAt:=Hz (fun k (hk:k<n)=>m.hI.at_ k hk)
 have hlc:=m.hI.le
 obtain⟨hlc1,hlc2⟩:=hlc
 have hnt:=m.hn
 have HB:=Hz hb
 have M0:=Hz (show Mi w0 g s t L w.heap.size 0 (w.alloc (.cells #[.int .i64 t.fr,.slice t.A1 t.n1 t.c1,.slice t.A2 t.n2 t.c2,.slice t.A3 t.n3 t.c3,.int .i64 t.tr] 26)) from⟨⟨F,hD.below ((Mb _ _).alloc (Mr _) _),fun i hi=>⟨hF i hi,by have:=hFw i hi;omega⟩⟩,hb.alloc hb.size _,Blk.new w _ t.cells⟩)
 have L0:=Hz (show Bw w (w.alloc (.cells #[.int .i64 t.fr,.slice t.A1 t.n1 t.c1,.slice t.A2 t.n2 t.c2,.slice t.A3 t.n3 t.c3,.int .i64 t.tr] 26)) from (Mb _ _).alloc (Mr _) _)
 clear hMk hM hN hD hF hFw hb m
 obtain⟨fr,A1,n1,c1,TP,A2,n2,c2,TW,A3,n3,c3,TC,tr⟩:=t
 dsimp only at hnt
 subst hnt
 show Calls _ _ #[_,.agg #[.int .i64 fr,.slice A1 n c1,.slice A2 n2 c2,.slice A3 n3 c3,.int .i64 tr],_] w _
 go_enter Tryz.func6,Tryz.ntmps6
 go_wp2_with (first
  | (go_at_call 27;refine (HRM.o _ L0.o).mono ?_;rintro e w1 ⟨rfl,hb1⟩;have M1:=Hz (M0.o.below hb1);have q1:=M1.o.tb.cell (i:=1) rfl;dsimp only at q1;clear hb1)
  | (refine Qj rfl 26 (.tmp 4) rfl w.heap.size rfl (show Blk _ w.heap.size 26 [.int .i64 fr,.slice A1 n c1,.slice A2 n2 c2,.slice A3 n3 c3,.int .i64 tr] from M0.o.tb) Tryz.underlying26 rfl Jy ?_))
 clear q1 M0 HRM
 go_loopw [29] (fun i wr=>∃k:Nat,k≤n∧i=.int .i64 (k:Nat)∧Hid (Mi w0 g s ⟨fr,A1,n,c1,TP,A2,n2,c2,TW,A3,n3,c3,TC,tr⟩ L w.heap.size 0 wr)) (fun i _=>n-(intOf i).toNat)
 case atStart=>exact⟨0,Nat.zero_le _,rfl,M1⟩
 case round=>
  obtain⟨k,hk,rfl,HM⟩:=hrel
  clear M1
  by_cases hlt:k<n
  ·obtain⟨bi,oi,hA,hbl,hcell⟩:=HAt.o k hlt
   subst hA
   have HCl:=Hz (fun (w':World) (hb:Bw w0 w') i v (h:(L.getD k im0).cells[i]?=some v)=>(hb.cell (p:=⟨bi,oi+k*8+i,none⟩) hbl).trans (hcell i v h))
   have HCKk:=Hz (HCK.o k hlt)
   clear hcell
   obtain⟨im,him⟩:∃im,im=L.getD k im0:=⟨_,rfl⟩
   rw [←him] at HCl HCKk
   clear him
   obtain⟨ip,iv,ih,imm,if_,is_,ir,iA,in_,ic,ixs⟩:=im
   have z0:=HCl.o wr HM.o.bel 0 _ rfl
   have z1:=HCl.o wr HM.o.bel 1 _ rfl
   have z2:=HCl.o wr HM.o.bel 2 _ rfl
   have z3:=HCl.o wr HM.o.bel 3 _ rfl
   have z4:=HCl.o wr HM.o.bel 4 _ rfl
   have z5:=HCl.o wr HM.o.bel 5 _ rfl
   have z6:=HCl.o wr HM.o.bel 6 _ rfl
   have z7:=HCl.o wr HM.o.bel 7 _ rfl
   rw [Nat.add_zero] at z0
   dsimp only at z0 z1 z2 z3 z4 z5 z6 z7
   have MA:=Hz (HM.o.below ((Mb wr.heap.size wr).alloc (Mr _) (.cells #[.int .i64 ip,.int .i64 iv,.int .i64 ih,.int .i64 imm,.int .i64 if_,.int .i64 is_,.int .i64 ir,.slice iA in_ ic] 33)))
   have BA:=Hz (Blk.new wr 33 [.int .i64 ip,.int .i64 iv,.int .i64 ih,.int .i64 imm,.int .i64 if_,.int .i64 is_,.int .i64 ir,.slice iA in_ ic])
   go_wp2_with (first
    | (refine Qj rfl 26 (.tmp 4) rfl w.heap.size rfl (show Blk _ w.heap.size 26 [.int .i64 fr,.slice A1 n c1,.slice A2 n2 c2,.slice A3 n3 c3,.int .i64 tr] from MA.o.tb) Tryz.underlying26 rfl Jy ?_)
    | (refine Qj rfl 33 (.tmp 10) rfl wr.heap.size rfl (show Blk _ wr.heap.size 33 [.int .i64 ip,.int .i64 iv,.int .i64 ih,.int .i64 imm,.int .i64 if_,.int .i64 is_,.int .i64 ir,.slice iA in_ ic] from BA.o) Tryz.underlying33 rfl Ty ?_)
    | (go_at_call 28;refine (HCKk.o _ MA.o.bel).mono ?_;rintro e w3 ⟨rfl,hb3⟩;have M3:=Hz (MA.o.below hb3);clear hb3))
   go_roundw
   case rel=>exact⟨k+1,by omega,by go_num,M3⟩
   case measure=>simp [intOf];omega
  ·obtain rfl:n=k:=by omega
   go_wp2_with fail
   go_loopw [44] (fun i wr=>∃k:Nat,k≤n∧i=.int .i64 (k:Nat)∧Hid (Mi w0 g s ⟨fr,A1,n,c1,TP,A2,n2,c2,TW,A3,n3,c3,TC,tr⟩ L w.heap.size k wr)) (fun i _=>n-(intOf i).toNat)
   case atStart=>exact⟨0,Nat.zero_le _,rfl,HM⟩
   case round=>
    obtain⟨k,hk2,rfl,HK⟩:=hrel
    clear HM
    obtain⟨wo,rfl⟩:∃wo,wo=wr:=⟨_,rfl⟩
    by_cases hlt:k<n
    ·obtain⟨bi,oi,hA,hbl,hcell⟩:=HAt.o k hlt
     subst hA
     have HCl:=Hz (fun (w':World) (hb:Bw w0 w') i v (h:(L.getD k im0).cells[i]?=some v)=>(hb.cell (p:=⟨bi,oi+k*8+i,none⟩) hbl).trans (hcell i v h))
     have HLYk:=Hz (HLY.o k hlt)
     clear hcell
     obtain⟨im,him⟩:∃im,im=L.getD k im0:=⟨_,rfl⟩
     rw [←him] at HCl HLYk
     clear him
     obtain⟨ip,iv,ih,imm,if_,is_,ir,iA,in_,ic,ixs⟩:=im
     have z0:=HCl.o _ HK.o.bel 0 _ rfl
     have z1:=HCl.o _ HK.o.bel 1 _ rfl
     have z2:=HCl.o _ HK.o.bel 2 _ rfl
     have z3:=HCl.o _ HK.o.bel 3 _ rfl
     have z4:=HCl.o _ HK.o.bel 4 _ rfl
     have z5:=HCl.o _ HK.o.bel 5 _ rfl
     have z6:=HCl.o _ HK.o.bel 6 _ rfl
     have z7:=HCl.o _ HK.o.bel 7 _ rfl
     rw [Nat.add_zero] at z0
     dsimp only at z0 z1 z2 z3 z4 z5 z6 z7
     have MA:=Hz (HK.o.below ((Mb _ _).alloc (Mr _) (.cells #[.int .i64 ip,.int .i64 iv,.int .i64 ih,.int .i64 imm,.int .i64 if_,.int .i64 is_,.int .i64 ir,.slice iA in_ ic] 33)))
     have BA:=Hz (Blk.new wo 33 [.int .i64 ip,.int .i64 iv,.int .i64 ih,.int .i64 imm,.int .i64 if_,.int .i64 is_,.int .i64 ir,.slice iA in_ ic])
     obtain⟨F1,hd1,hf1⟩:=MA.o.dk
     have HL1:=Hz (HLYk.o F1 _ MA.o.bel hd1)
     have HF1:=Hz hf1
     clear hd1 hf1
     go_wp2_with (first
      | (refine Qj rfl 33 (.tmp 13) rfl wo.heap.size rfl (show Blk _ wo.heap.size 33 [.int .i64 ip,.int .i64 iv,.int .i64 ih,.int .i64 imm,.int .i64 if_,.int .i64 is_,.int .i64 ir,.slice iA in_ ic] from BA.o) Tryz.underlying33 rfl Ty ?_)
      | (go_at_call 29;refine HL1.o.mono ?_;rintro e w3 ⟨rfl,F3,hd3,hk3,hf3⟩;have M3:=Hz (MA.o.next HF1.o hd3 hk3 hf3);clear hd3 hk3 hf3))
     go_roundw
     case rel=>exact⟨k+1,by omega,by go_num,M3⟩
     case measure=>simp [intOf];omega
    ·obtain rfl:n=k:=by omega
     obtain⟨F1,hd1,hf1⟩:=HK.o.dk
     have HO1:=Hz (HOP.o F1 _ HK.o.bel (fun i hi=>(hf1 i hi).1) hd1)
     clear hd1 hf1
     go_wp2_with (first
      | (refine Qj rfl 26 (.tmp 4) rfl w.heap.size rfl (show Blk _ w.heap.size 26 [.int .i64 fr,.slice A1 n c1,.slice A2 n2 c2,.slice A3 n3 c3,.int .i64 tr] from HK.o.tb) Tryz.underlying26 rfl Jy ?_)
      | (go_at_call 7;refine HO1.o.mono ?_;rintro e w3 ⟨F3,ζ3,Z3,t3,s3,rfl,ho3⟩;have O3:=Hz ho3;clear ho3))
     refine bodyPost_ret (v:=.tuple #[.pointer (some ⟨Z3.z,0,none⟩),.int .i64 0]) (by simp [results,Tryz.results6,go_sem]) rfl ?_
     exact⟨F3,ζ3,Z3,t3,s3,rfl,O3.o⟩
end
end StoLd
namespace StoN
open Mem DskA RecM StoM StoV StoW
open StgN (Sm DS Sgo)
open CmtN (Lm LS Lgo)
open TabA (Tri Tris Ta)
open RecA (rval rcells rok sval scells sok n64)
open ImgT (Ig iG iG_ok)
open ImgU (Gi)
open ShaE (Tab)
open StoCk (ck)
section
variable {w w1 w2 w3:World} {F:Nat→Prop} {ζ:Nat→Zl} {g n p b:Nat} {s s':St} {t:Ta} {P P':Nat→Pt} {Z:Lo} {O:Nat→Ow} {T:Int} {chk:Nat→Ig→Int→Int}
theorem Zgo.only (h:DZ w F ζ g s t n P Z) (h01:Bw w w1) (hz:Zgo F ζ g t n Z w1 s' P' w2) (hw:w.heap.size≤b) (hb:b<w1.heap.size) (ho:Only b w2 w3):Zgo F ζ g t n Z w s' P' w3:=by
 obtain⟨F',h1,h2,h3,h4,h5⟩:=hz
 have hk:Keep (fun i=>i=b) w2 w3:=Keep.only ho rfl
 have hF : ¬F' b:=fun hf=>by
  rcases h5 b hf with h6|h6
  ·have:=h.dk.lt b h6;omega
  ·omega
 have hζ:ζ b=.out:=Mc_ fun e=>by have:=h.zm.lt b e;omega
 refine⟨F',h1.keep hk fun i hi e=>hF (e▸hi),h2.keep hk fun i hi e=>hi (e▸hζ),h3,?_,fun i hi=>(h5 i hi).imp id fun h6=>Ml h01.size h6⟩
 exact⟨ho.1.os.trans (h4.os.trans h01.os),ho.1.tape.trans (h4.tape.trans h01.tape),ho.1.output.trans (h4.output.trans h01.output),Ml h01.size (Ml h4.size ho.1.size),fun i hi hn=>
  (hk.block i (Mw (Mw hi h01.size) h4.size) (by show ¬i=b;omega)).trans ((h4.block i (Mw hi h01.size) hn).trans (h01.block i hi))⟩
theorem save_b (h:DZ w F ζ g s t n P Z) (a:Au n s P O) (hp:p<n) (r r':Rc) (hr:rok r) (h1:r.a=r'.a) (h2:r.c=r'.c) (h3:r.l=r'.l) (h4:r.b=r'.b) (w':World) (hw:Bw w w') :
 Calls Tryz.prog 57 #[.pointer (some ⟨Z.la p,0,none⟩),rval r] w' fun e w''=>e=.returned (.int .i64 (ksave s P p r').2.2)∧∀b C,Blk w' b 33 C→w.heap.size≤b→Blk w'' b 33 C∧∀w3,Only b w'' w3→Zgo F ζ g t n Z w (ksave s P p r').1 (ksave s P p r').2.1 w3:=by
 have h':=h.below hw
 have hrc:=a.rc hp
 refine (CmtN.qqt F _ g _ s (P p).l r w' (h'.ls hp ⟨hrc.1,by rw [hrc.2.1,hrc.2.2.1],hrc.2.2.2⟩) hr).mono fun e w2 hg=>?_
 obtain⟨he,hz'⟩:=h'.lgo hp hg
 unfold ksave
 rw [←qv0 s (P p).l h1 h2 h3 h4]
 refine⟨he,fun b C hB hb=>⟨?_,fun w3 ho=>Zgo.only h hw hz' hb hB.lt ho⟩⟩
 obtain⟨F',_,_,_,hk,_⟩:=hz'
 refine hk.blk hB fun hh=>?_
 rcases hh with hh|⟨q,hh|⟨j,hh⟩⟩
 ·have:=h.dk.lt b hh;omega
 ·have:=h.zm.lt b (by rw [hh];intro e;cases e);omega
 ·have:=h.zm.lt b (by rw [hh];intro e;cases e);omega
def bim (s:St) (P:Nat→Pt) (p:Nat) (x:Int):Ig:=if x=0 then kim s ((P p).t (sl (btR (P p).l.r).a)) else Ig.no x
theorem btR_sl {r:Rc} (ha:0≤r.a∧r.a≤1) (hc:0≤r.c∧r.c≤1):(btR r).a=r.a∨(btR r).a=r.c:=by
 unfold btR
 split
 ·exact .inl rfl
 ·split
  ·exact .inr rfl
  ·exact .inl rfl
theorem kboot (q:Int):kDo n T chk s P ⟨4,q,0,0,0,[]⟩=if q<0∨(n:Int)≤q then (s,P,3) else if (P q.toNat).l.r.a=(P q.toNat).l.r.c then (s,P,0) else ksave s P q.toNat (bootR (P q.toNat).l.r):=by
 unfold kDo
 rw [if_neg (by show ¬(4:Nat)=0;omega),if_neg (by show ¬(4:Nat)=1;omega),if_neg (by show ¬(4:Nat)=2;omega),if_neg (by show ¬(4:Nat)=3;omega),if_pos rfl]
theorem Bo.still (h:DZ w F ζ g s t n P Z) {i:Ig} {x:Int} {e:Ending} {w':World} (hb:Bo i x (Bw w) e w'):Bo i x (Zgo F ζ g t n Z w s P) e w':=by
 obtain⟨B,m,d,h1,h2⟩:=hb
 exact⟨B,m,d,h1,h.still h2⟩
theorem bt_save {r:Rc} (hac:r.a≠r.c) (hl:r.l=0→True):(btR r).a=(bootR r).a∧(btR r).c=(bootR r).c∧(btR r).l=(bootR r).l∧(btR r).b=(bootR r).b:=by
 unfold btR bootR
 rw [if_neg hac]
 by_cases h:r.l=0
 ·rw [if_pos h,if_pos h]
  exact⟨rfl,rfl,h.symm,rfl⟩
 ·rw [if_neg h,if_neg h]
  exact⟨rfl,rfl,rfl,rfl⟩
theorem bt_ok {r:Rc} (hr:r.right):rok (btR r):=by
 have h1:=hr.1
 have h2:=hr.2.1
 have hk:=rok_of hr
 unfold btR
 split
 ·exact hk
 ·split
  ·exact⟨n64z,n64z,hk.c,hk.c,n64z,⟨by show -9223372036854775808≤1+r.a;omega,by show 1+r.a≤9223372036854775807;omega⟩⟩
  ·exact⟨hk.p,hk.q,hk.a,hk.c,⟨by show -9223372036854775808≤r.l-1;omega,by show r.l-1≤9223372036854775807;omega⟩,hk.b⟩
theorem boot_up (h:DZ w F ζ g s t n P Z) (a:Au n s P O) (hT:Tab w) (hp:p<n) (hrun:(kim s ((P p).t (sl (P p).l.r.a))).e=0∧(kim s ((P p).t (sl (P p).l.r.c))).e=0) :
 Calls Tryz.prog 25 #[.pointer (some ⟨Z.z,0,none⟩),.int .i64 (p:Nat)] w (Bo (bim s P p (kDo n T chk s P ⟨4,(p:Nat),0,0,0,[]⟩).2.2) (kDo n T chk s P ⟨4,(p:Nat),0,0,0,[]⟩).2.2 (Zgo F ζ g t n Z w (kDo n T chk s P ⟨4,(p:Nat),0,0,0,[]⟩).1 (kDo n T chk s P ⟨4,(p:Nat),0,0,0,[]⟩).2.1)):=by
 rw [kboot,if_neg (show ¬((p:Int)<0∨(n:Int)≤p) from by omega),show ((p:Int)).toNat=p from by omega]
 have hc:=a.hc hp
 have hrr:=(a.rc hp).1
 have hl:=hrr.2.1
 have hbo:=bt_ok hrr
 have hbs:=btR_sl hc.1 hc.2
 have hsv:=fun hac=>bt_save (r:=(P p).l.r) hac fun _=>trivial
 obtain⟨m,hm⟩:∃m,m=btR (P p).l.r:=⟨_,rfl⟩
 have hma:0≤m.a∧m.a≤1:=by rw [hm];rcases hbs with e|e <;> rw [e];exact hc.1;exact hc.2
 have hie:(kim s ((P p).t (sl m.a))).e=0:=by rw [hm];rcases hbs with e|e <;> rw [e];exact hrun.1;exact hrun.2
 have hsl:=sl_int hma
 have himg:=qv1 h a hT hp hsl.2
 rw [hsl.1] at himg
 have hbi:∀x,bim s P p x=if x=0 then kim s ((P p).t (sl m.a)) else Ig.no x:=fun x=>by unfold bim;rw [hm]
 rw [←hm] at hbo hsv
 obtain⟨r,hr⟩:∃r,r=(P p).l.r:=⟨_,rfl⟩
 have hlat:=lat_of h hp r.p r.q r.a r.c r.l r.b (by rw [←hr])
 rw [←hr] at hc hl hm hsv ⊢
 obtain⟨r0,r1,ra,rc,r4,r5⟩:=r
 obtain⟨n0,n1,na,nc,nl,nb⟩:=m
 have hrl:0≤r4∧r4≤7:=hl
 by_cases hac:ra=rc
 ·rw [if_pos (show (⟨r0,r1,ra,rc,r4,r5⟩:Rc).a=(⟨r0,r1,ra,rc,r4,r5⟩:Rc).c from hac)]
  rw [hbi,if_pos rfl]
  exact (boot_img _ _ r0 r1 ra rc r4 r5 hc.1 hrl n0 n1 na nc nl nb hm.symm _ (ats_yes h hp) hlat himg (trs_at h hp false ⟨fun e=>(by cases e),fun e=>absurd (by rw [←hr];exact hac) e⟩) hie).mono fun _ _ hh=>Bo.still h hh
 ·rw [if_neg (show ¬(⟨r0,r1,ra,rc,r4,r5⟩:Rc).a=(⟨r0,r1,ra,rc,r4,r5⟩:Rc).c from hac)]
  have hs:=hsv hac
  have htr:=trs_at h hp true ⟨fun _=>(by rw [←hr];exact hac),fun _=>rfl⟩
  have hsb:=fun w' hw=>save_b h a hp ⟨n0,n1,na,nc,nl,nb⟩ (bootR ⟨r0,r1,ra,rc,r4,r5⟩) hbo hs.1 hs.2.1 hs.2.2.1 hs.2.2.2 w' hw
  by_cases hx:(ksave s P p (bootR ⟨r0,r1,ra,rc,r4,r5⟩)).2.2=0
  ·rw [hbi,if_pos hx,hx]
   rw [hx] at hsb
   exact qjq _ _ r0 r1 ra rc r4 r5 hc.1 hrl n0 n1 na nc nl nb hm.symm _ (ats_yes h hp) hlat himg htr hie hsb
  ·rw [hbi,if_neg hx]
   exact Nt _ _ r0 r1 ra rc r4 r5 hc.1 hrl n0 n1 na nc nl nb hm.symm _ (ats_yes h hp) hlat himg htr (.inl hie) hx hsb
theorem qw6 (h:DZ w F ζ g s t n P Z) (hp:p<n):Calls Tryz.prog 26 #[.pointer (some ⟨Z.z,0,none⟩),.int .i64 (p:Nat)] w fun e w'=>e=.returned (rval (P p).l.r)∧Bw w w':=
 qvv _ _ _ _ _ _ _ _ (ats_yes h hp) (lat_of h hp _ _ _ _ _ _ rfl)
end
end StoN
namespace StoL
open DskA Put2 StoM ImgT StoV
section
variable {n:Nat} {T:Int} {chk:Nat→Ig→Int→Int} {s:St} {P:Nat→Pt} {D D2:Dc} {p:Nat}
def Lw (n:Nat) (chk:Nat→Ig→Int→Int) (s:St) (P:Nat→Pt) (D:Dc):Option Dc→Prop
 | none=>SU s n P D.O∧DI n chk D
 | some D2=>SD s n P D.O D2.O∧DI n chk D∧DI n chk D2
variable {m:Option Dc}
theorem Lw.pt (h:Lw n chk s P D m):∀p,p<n→PtOk p (P p) (D.O p):=by
 cases m with
 | none=>exact h.1.pt
 | some y=>exact h.1.pt
theorem Lw.ok (h:Lw n chk s P D m):∀p,p<n→Okw p (D.O p):=by
 cases m with
 | none=>exact h.1.ok
 | some y=>exact h.1.ok
theorem Lw.byts (h:Lw n chk s P D m):Byts s:=by
 cases m with
 | none=>exact h.1.byts
 | some y=>exact h.1.byts
theorem Lw.most (h:Lw n chk s P D m):s.L.length≤1:=by
 cases m with
 | none=>rw [h.1.up.none_];exact Nat.zero_le _
 | some y=>exact h.1.most
theorem Lw.len (h:Lw n chk s P D m):10*n≤s.S.length∧n≤4:=by
 cases m with
 | none=>exact⟨h.1.len,h.1.n4⟩
 | some y=>exact⟨h.1.len,h.1.n4⟩
theorem Lw.di (h:Lw n chk s P D m):DI n chk D:=by
 cases m with
 | none=>exact h.2
 | some y=>exact h.2.1
end
end StoL
namespace StoFr
open Kit Byt Mem DskA RecM StgM StgJ CmtM StoM StoV StoW StoL StoN StoLd
open RecA (rval rcells rok sval scells sok n64)
open ImgT (Ig iG)
open ShaE (Tab)
open StoCk (ck)
open TabA (Ta)
section
variable {n:Nat} {T:Int} {chk:Nat→Ig→Int→Int} {s:St} {P:Nat→Pt} {D:Dc}
theorem fr_sA (f:Free s) (t:Slt) (c:Sa):Free (sA s t c).1:=by
 have h:=fun i bs=>(put1_free f i bs).2
 unfold sA
 split
 ·unfold pB
  split
  ·split <;> exact h _ _
  ·exact f
 ·split
  ·unfold pP
   repeat' split
   all_goals first
    | exact f
    | exact h _ _
    | exact (put1_free (h _ _) _ _).2
  ·unfold pC
   split <;> exact h _ _
theorem fr_do (f:Free s) (a:Da):Free (kDo n T chk s P a).1:=by
 have h1:=fun p c=>(fr_sA f ((P p).t (ksp (P p))) c:Free (kslot s P p c).1)
 have h2:=fun p r=>((free_S f r).1:Free (ksave s P p r).1)
 unfold kDo kseal
 repeat' split
 all_goals first
  | exact f
  | exact h1 _ _
  | exact h2 _ _
theorem qv3 (hc8:∀p i v,chk p i v≠8) (hv:∀p i v,0≤v→chk p i v=0→chk p i 0=0) (h:Lw n chk s P D none) (f:Free s) (a:Da) (hb:byt a.d) :
 (kDo n T chk s P a).2.2=(dDo n T chk D a).2∧Lw n chk (kDo n T chk s P a).1 (kDo n T chk s P a).2.1 (dDo n T chk D a).1 none∧Free (kDo n T chk s P a).1:=by
 have hf:=fr_do (n:=n) (T:=T) (chk:=chk) (P:=P) f a
 have ho:=out_do (T:=T) hc8 h.1 h.2 a hb
 have hd:=di_do (T:=T) hv h.di h.ok a
 rcases ho with⟨h1,_,h3⟩|⟨_,_,_,h4⟩
 ·exact⟨h1,⟨h3,hd⟩,hf⟩
 ·have:=h4.down
  rw [hf.2] at this
  cases this
end
structure Al (w0 w:World) (F:Nat→Prop) (ζ:Nat→Zl) (g:Nat) (s:St) (t:Ta) (n:Nat) (P:Nat→Pt) (Z:Lo) (D:Dc):Prop where
 dz:DZ w F ζ g s t n P Z
 lw:Lw n (ck t) s P D none
 fr:Free s
 F0:∀i,F i→w0.heap.size≤i
 z0:∀i,ζ i≠.out→w0.heap.size≤i
 bel:Bw w0 w
def Kz (F:Nat→Prop) (ζ:Nat→Zl) (w:World) (F':Nat→Prop) (w':World):Prop:=Keep (fun i=>F i∨isZ ζ i) w w'∧∀i,F' i→F i∨w.heap.size≤i
def Ac (w0:World) (F:Nat→Prop) (ζ:Nat→Zl) (g:Nat) (t:Ta) (n:Nat) (Z:Lo) (w:World) (r:Dc×Int) (e:Ending) (w':World):Prop:=
 e=.returned (.int .i64 r.2)∧∃F' s' P',Al w0 w' F' ζ g s' t n P' Z r.1∧Kz F ζ w F' w'
section
variable {w0 w w':World} {F:Nat→Prop} {ζ:Nat→Zl} {g n p:Nat} {s s':St} {t:Ta} {P P':Nat→Pt} {Z:Lo} {D D':Dc}
theorem Al.below (h:Al w0 w F ζ g s t n P Z D) (hb:Bw w w'):Al w0 w' F ζ g s t n P Z D:=⟨h.dz.below hb,h.lw,h.fr,h.F0,h.z0,h.bel.trans (hb.mono h.bel.size)⟩
theorem Al.au (h:Al w0 w F ζ g s t n P Z D):Au n s P D.O:=⟨h.lw.ok,h.lw.pt,h.lw.byts,fun _=>h.lw.1⟩
theorem Al.tab (h:Al w0 w F ζ g s t n P Z D) (hT:Tab w0):Tab w:=hT.below h.bel hT.1
theorem Al.run (h:Al w0 w F ζ g s t n P Z D) (hp:p<n):kim s ((P p).t (sl (P p).l.r.a))=D.I p (sl (D.O p).r.a)∧kim s ((P p).t (sl (P p).l.r.c))=D.I p (sl (D.O p).r.c)∧(D.I p (sl (D.O p).r.a)).e=0∧(D.I p (sl (D.O p).r.c)).e=0:=by
 have hr:=(h.lw.pt p hp).lr
 have hc:=h.au.hc hp
 have hd:=h.lw.2 p hp
 rw [hr] at hc ⊢
 exact⟨qv2 h.lw.1 hp (sl_int hc.1).2 hd.1,qv2 h.lw.1 hp (sl_int hc.2).2 hd.2,hd.1.ok,hd.2.ok⟩
theorem Al.step (h:Al w0 w F ζ g s t n P Z D) (hz:Zgo F ζ g t n Z w s' P' w') (hl:Lw n (ck t) s' P' D' none) (hf:Free s'):∃F' s' P',Al w0 w' F' ζ g s' t n P' Z D'∧Kz F ζ w F' w':=by
 obtain⟨F',h1,h2,h3,h4,h5⟩:=hz
 have hb:=h.bel.size
 refine⟨F',s',P',⟨⟨h1,h2,h3,Ml hl.most (by omega),hl.len.1,fun p hp=>?_⟩,hl,hf,fun i hi=>?_,h.z0,h.bel.trans (h4.below (fun k hk=>?_) h.bel.size)⟩,h4,h5⟩
 ·have hk:=hl.pt p hp
  exact⟨hk.lp,fun k hk'=>by rw [hk.t k hk'];exact⟨rfl,rfl⟩⟩
 ·rcases h5 i hi with h6|h6
  ·exact h.F0 i h6
  ·omega
 ·rcases hk with hk|⟨p,hk|⟨k',hk⟩⟩
  ·exact h.F0 k hk
  ·exact h.z0 k (by rw [hk];intro e;cases e)
  ·exact h.z0 k (by rw [hk];intro e;cases e)
theorem Al.ac (h:Al w0 w F ζ g s t n P Z D) (a:Da) (hb:byt a.d) {e:Ending} (hk:Kgo F ζ g t n Z w (kDo n t.tr (ck t) s P a) e w'):Ac w0 F ζ g t n Z w (dDo n t.tr (ck t) D a) e w':=by
 have hf:=qv3 (T:=t.tr) (fun p i v=>StoCk.ck_8 t p i v) (fun p i v hv he=>StoCk.ck_0 hv he) h.lw h.fr a hb
 obtain⟨h1,h2⟩:=hk
 rw [hf.1] at h1
 exact⟨h1,h.step h2 hf.2.1 hf.2.2⟩
theorem nob:byt ([]:List Nat):=fun c hc=>by cases hc
theorem begin_al (h:Al w0 w F ζ g s t n P Z D) (q ses z:Int) (hs:n64 ses) (hz:n64 z) :
 Calls Tryz.prog 21 #[.pointer (some ⟨Z.z,0,none⟩),.int .i64 q,.int .i64 ses,.int .i64 z] w (Ac w0 F ζ g t n Z w (dDo n t.tr (ck t) D ⟨0,q,ses,z,0,[]⟩)):=
 (begin_k h.dz h.au q ses z hs hz).mono fun _ _ hh=>h.ac _ nob hh
theorem load_al (h:Al w0 w F ζ g s t n P Z D) (q ses no:Int) (hs:n64 ses) (hno:n64 no) (A:Option Addr) (m d:Nat) (xs:List Nat) (hR:Rd w A m d (u8n xs)) (hb:byt xs) (hA:∀b o,A=some ⟨b,o,none⟩→¬F b∧ζ b=.out) :
 Calls Tryz.prog 22 #[.pointer (some ⟨Z.z,0,none⟩),.int .i64 q,.int .i64 ses,.int .i64 no,.slice A m d] w (Ac w0 F ζ g t n Z w (dDo n t.tr (ck t) D ⟨1,q,ses,0,no,xs⟩)):=
 (load_k h.dz h.au q ses no hs hno A m d xs hR hb hA).mono fun _ _ hh=>h.ac ⟨1,q,ses,0,no,xs⟩ hb hh
theorem seal_al (h:Al w0 w F ζ g s t n P Z D) (hT:Tab w0) (q ses:Int) :
 Calls Tryz.prog 24 #[.pointer (some ⟨Z.z,0,none⟩),.int .i64 q,.int .i64 ses] w (Ac w0 F ζ g t n Z w (dDo n t.tr (ck t) D ⟨2,q,ses,0,0,[]⟩)):=
 (seal_k h.dz h.au (h.tab hT) (fun _ p hp=>by have hr:=h.run hp;rw [hr.1];exact hr.2.2.1) q ses).mono fun _ _ hh=>h.ac _ nob hh
end
end StoFr
namespace StoFr
open DskA CmtM StoM StoV StoN StoLd
open RecA (rval rcells rok sval scells sok n64)
open ImgT (Ig iG)
open ImgU (Gi)
open ShaE (Tab)
open StoCk (ck)
open TabA (Ta)
def Bt (w0:World) (F:Nat→Prop) (ζ:Nat→Zl) (g:Nat) (t:Ta) (n:Nat) (Z:Lo) (w:World) (p:Nat) (r:Dc×Int) (e:Ending) (w':World):Prop:=
 ∃(i:Ig) (B:Option Addr) (m d:Nat),e=.returned (.tuple #[.agg #[.int .i64 i.p,.int .i64 i.v,.int .i64 i.h,.int .i64 i.m,.int .i64 i.f,.int .i64 i.s,.int .i64 i.r,.slice B m d],.int .i64 r.2])∧(r.2=0→i=r.1.I p (sl (r.1.O p).r.a))∧∃F' s' P',Al w0 w' F' ζ g s' t n P' Z r.1∧Kz F ζ w F' w'
section
variable {w0 w w':World} {F:Nat→Prop} {ζ:Nat→Zl} {g n p:Nat} {s s':St} {t:Ta} {P P':Nat→Pt} {Z:Lo} {D D':Dc}
theorem dboot {T:Int} {chk:Nat→Ig→Int→Int} (hp:p<n):dDo n T chk D ⟨4,p,0,0,0,[]⟩=if (D.O p).r.a=(D.O p).r.c then (D,0) else dsave D p (bootR (D.O p).r):=by
 unfold dDo
 rw [if_neg (by show ¬(4:Nat)=0;omega),if_neg (by show ¬(4:Nat)=1;omega),if_neg (by show ¬(4:Nat)=2;omega),if_neg (by show ¬(4:Nat)=3;omega),if_pos rfl,if_neg (show ¬((p:Int)<0∨(n:Int)≤p) from by omega),show ((p:Int)).toNat=p from by omega]
theorem boot_al (h:Al w0 w F ζ g s t n P Z D) (hT:Tab w0) (hp:p<n) :
 Calls Tryz.prog 25 #[.pointer (some ⟨Z.z,0,none⟩),.int .i64 (p:Nat)] w (Bt w0 F ζ g t n Z w p (dDo n t.tr (ck t) D ⟨4,p,0,0,0,[]⟩)):=by
 have hr:=h.run hp
 have hf:=qv3 (T:=t.tr) (fun p i v=>StoCk.ck_8 t p i v) (fun p i v hv he=>StoCk.ck_0 hv he) h.lw h.fr ⟨4,p,0,0,0,[]⟩ nob
 refine (boot_up (chk:=ck t) (T:=t.tr) h.dz h.au (h.tab hT) hp ⟨by rw [hr.1];exact hr.2.2.1,by rw [hr.2.1];exact hr.2.2.2⟩).mono ?_
 rintro e w2 ⟨B,m,d,he,hz⟩
 rw [hf.1] at he
 refine⟨_,B,m,d,he,fun e0=>?_,h.step hz hf.2.1 hf.2.2⟩
 unfold bim
 rw [if_pos e0]
 have hlr:=(h.lw.pt p hp).lr
 have hc:=h.au.hc hp
 rw [hlr] at hr hc ⊢
 have hd:=dboot (T:=t.tr) (chk:=ck t) (D:=D) hp
 rw [hd] at e0 ⊢
 by_cases hac:(D.O p).r.a=(D.O p).r.c
 ·rw [if_pos hac]
  have hb:btR (D.O p).r=(D.O p).r:=by unfold btR;rw [if_pos hac]
  rw [hb]
  exact hr.1
 ·rw [if_neg hac] at e0 ⊢
  have hb:=(bt_save hac (fun _=>trivial)).1
  have hx:(nx (D.O p).r (bootR (D.O p).r)).1.a=(bootR (D.O p).r).a:=by
   unfold dsave at e0
   have e1:(nx (D.O p).r (bootR (D.O p).r)).2=0:=e0
   unfold nx at e1 ⊢
   split at e1
   ·exact absurd e1 (by show ¬(4:Int)=0;omega)
   ·rename_i h1
    rw [if_neg h1]
    split at e1
    ·rename_i h2
     rw [if_pos h2]
     rfl
    ·exact absurd e1 (by show ¬(3:Int)=0;omega)
  have ho:((dsave D p (bootR (D.O p).r)).1.O p).r.a=(btR (D.O p).r).a:=by
   unfold dsave
   show (upd D.O p _ p).r.a=_
   rw [Qw,hb]
   exact hx
  rw [ho]
  show kim s ((P p).t (sl (btR (D.O p).r).a))=D.I p (sl (btR (D.O p).r).a)
  rcases btR_sl (r:=(D.O p).r) hc.1 hc.2 with e2|e2
  ·rw [e2];exact hr.1
  ·rw [e2];exact hr.2.1
theorem qv4 (h:Al w0 w F ζ g s t n P Z D) (hp:p<n):Calls Tryz.prog 26 #[.pointer (some ⟨Z.z,0,none⟩),.int .i64 (p:Nat)] w fun e w'=>e=.returned (rval (D.O p).r)∧Bw w w':=by
 rw [←(h.lw.pt p hp).lr]
 exact qw6 h.dz hp
theorem Opd.al {e:Ending} {wN:World} {G:Nat→Prop} (h:Opd w0 wN G g t n D e w') (hN:w0.heap.size≤wN.heap.size) (hI:DI n (ck t) D):∃F ζ Z t' s P,e=.returned (.tuple #[.pointer (some ⟨Z.z,0,none⟩),.int .i64 0])∧Al w0 w' F ζ g s t' n P Z D∧ck t'=ck t∧t'.tr=t.tr∧(∀i,ζ i≠.out→wN.heap.size≤i)∧Bw wN w'∧∀i,F i→G i:=by
 obtain⟨F,ζ,Z,t',s,he,hz,hS,hf,hk,hF,hζ,hb,hb2⟩:=h
 have hck:=StoCk.ck_like hk.1 hk.2.1 hk.2.2.1 hk.2.2.2.1 hk.2.2.2.2.1 hk.2.2.2.2.2
 exact⟨F,ζ,Z,t',s,opn s,he,⟨hz,⟨hS,by rw [hck];exact hI⟩,hf,fun i hi=>(hF i hi).1,fun i hi=>Ml hN (hζ i hi),hb⟩,hck,hk.2.1,hζ,hb2,fun i hi=>(hF i hi).2⟩
end
end StoFr
namespace LayM
open DskA DskB CpaM StoM StoV StoMk StoN StoLd StoFr StoE LayF
open TabA (Tri Ta)
open ImgA (Im)
open StoR (Ims im0 igOf mkD codeB)
open Lay (Ly I64)
open ShaE (Tab)
open StoCk (ck)
theorem Xy (L:List Im) {n p:Nat} (h:p<n):(L.take n).getD p im0=L.getD p im0:=by
 rw [Mg,Mg,List.getElem?_take,if_pos h]
theorem Ims.take {w:World} {A:Option Addr} {n c m:Nat} {L:List Im} (h:Ims w A n c L) (hm:m≤n):Ims w A m c (L.take m):=
 ⟨by rw [Mk_,h.len];omega,⟨by have:=h.le;omega,h.le.2⟩,fun k hk=>by
  rw [Xy L hk]
  exact h.at_ k (by omega),fun i hi=>h.ok i (List.mem_of_mem_take hi)⟩
theorem Ims.below {w w':World} {A:Option Addr} {n c:Nat} {L:List Im} (h:Ims w A n c L) (hb:Bw w w'):Ims w' A n c L:=
 ⟨h.len,h.le,fun k hk=>by
  obtain⟨b,o,hA,hl,hc⟩:=h.at_ k hk
  exact⟨b,o,hA,Mw hl hb.size,fun i v hv=>(hb.cell (p:=⟨b,o+k*8+i,none⟩) hl).trans (hc i v hv)⟩,fun i hi=>(h.ok i hi).below hb⟩
theorem ly_below {w w':World} {y:Ly} (h:y.ok w) (hb:Bw w w'):y.ok w':=⟨h.t.below hb,Ims.below h.L hb,h.n⟩
theorem fit1_ck {t:Ta} {p:Nat} {i:Im} (h:Fit1 t p i) (hn:i.xs.length=i.n):ImgB.right i∧ck t p (igOf i) 0=0:=by
 have h3:=StoT.tri_at (StoCk.tri_ck t p (igOf i)) (A:=i.A) (c:=i.c) hn
 have he:StoT.imo (igOf i) i.A i.n i.c=i:=rfl
 rw [he] at h3
 have h0:=h _ _ _ h3
 refine⟨h3.ri.1 ?_,h0⟩
 cases hb:StoCk.bi (igOf i) with
 | true=>rfl
 | false=>
   rw [hb] at h0
   unfold chk at h0
   split at h0
   ·exact absurd h0 (by omega)
   ·rw [if_pos (.inr (.inr rfl))] at h0
    exact absurd h0 (by omega)
section
variable {w w' w1:World} {y:Ly} {F:Nat→Prop} {ζ:Nat→Zl} {g n:Nat} {s:St} {t:Ta} {P:Nat→Pt} {Z:Lo} {D:Dc}
theorem Al.low (h:Al w1 w' F ζ g s t n P Z D) (hb:Bw w w1):Al w w' F ζ g s t n P Z D:=
 ⟨h.dz,h.lw,h.fr,fun i hi=>Ml hb.size (h.F0 i hi),fun i hi=>Ml hb.size (h.z0 i hi),hb.trans (h.bel.mono hb.size)⟩
theorem fit_mf (h:y.ok w) (hT:Tab w) (hf:Fit y):Mf w y.t (y.L.take y.t.n1) y.A y.t.n1 y.c:=by
 have hl:=h.L.len
 have hok:∀p,p<y.t.n1→(y.L.getD p im0).ok w:=fun p hp=>h.L.ok _ (by
  rw [Mg,Mq (by have:=hf.2.1;omega)]
  exact Me_ _)
 have h1:=fun p hp=>fit1_ck (hf.2.2.2.1 p hp) (hok p hp).len
 exact⟨h.t,hf.1,hT,Ims.take h.L hf.2.1,rfl,fun p hp=>by rw [Xy _ hp];exact (h1 p hp).1,fun p hp=>by rw [Xy _ hp];exact (h1 p hp).2⟩
end
def Mk3 (w:World) (y:Ly) (e:Ending) (w':World):Prop:=
 ∃F ζ Z t' s P g xb ρ M,e=.returned (.tuple #[.pointer (some ⟨Z.z,0,none⟩),.pointer (some ⟨g,0,none⟩),.pointer (some ⟨xb,0,none⟩)])∧Al w w' F ζ g s t' y.t.n1 P Z (mkD (y.L.take y.t.n1))∧ck t'=ck y.t∧t'.tr=y.t.tr∧
  RSt w' ρ xb y.t.cells y.t.n1 (mkD (y.L.take y.t.n1)) M∧(∀i,isO ρ i→codeB (y.L.take y.t.n1) i∨w.heap.size≤i)∧∀i,isO ρ i→¬F i∧ζ i=.out
section
variable {w:World} {y:Ly}
theorem made_any (h:y.ok w) (hT:Tab w) (hf:Fit y):Calls Tryz.prog 16 #[y.val] w (Mk3 w y):=by
 have hb0:Bw w (w.alloc (.cells (ycells y).toArray 29)):=(Mb _ _).alloc (Mr _) _
 have HB0:=Hz hb0
 have BX0:=Hz (Bx.new w y)
 obtain⟨w1,hw1⟩:∃w1,w1=w.alloc (.cells (ycells y).toArray 29):=⟨_,rfl⟩
 rw [←hw1] at hb0
 have hy:y.ok w1:=ly_below h hb0
 have hTw1:Tab w1:=hT.below hb0 hT.1
 have m:=fit_mf hy hTw1 hf
 have hn4:=m.n4
 have HRR:=Hz (fun w' (hb:Bw w w')=>TabK.Vu y.t w' (h.t.below hb) true ⟨fun _=>hf.1,fun _=>rfl⟩)
 have hmem:∀k,k<y.n→y.L.getD k im0 ∈ y.L:=fun k hk=>by
  rw [Mg,Mq (by rw [h.L.len];exact hk)]
  exact Me_ _
 have HCh:=Hz (fun k (hk:k<y.t.n1) w' (hb:Bw w w')=>(show Calls Tryz.prog 12 #[y.t.val,.int .i64 (k:Nat),(y.L.getD k im0).val,.int .i64 0] w' fun e w''=>e=.returned (.int .i64 0)∧Bw w' w'' from by
  obtain⟨br,bi,bx,h3⟩:=tri3 y.t (k:Int) (y.L.getD k im0)
  have hc:=CpaA.Ky y.t (k:Int) 0 (y.L.getD k im0) w' (h.t.below hb) ((h.L.ok _ (hmem k (by have:=hf.2.1;omega))).below hb) br bi bx h3
  rw [hf.2.2.2.1 k hk br bi bx h3] at hc
  exact hc))
 have HAt:=Hz (fun k (hk:k<y.t.n1)=>h.L.at_ k (by have:=hf.2.1;omega))
 have hle:=h.L.le
 obtain⟨hle1,hle2⟩:=hle
 have hfn:=hf.2.1
 have hf10:=hf.2.2.1
 have HSC:=Hz (fun w'=>(show Calls Tryz.prog 11 #[.int .i64 (y.t.n1:Nat)] w' fun e w''=>e=.returned (.int .i64 ((10*y.t.n1:Nat):Int))∧w'=w'' from by
  have hs:=PlaM.qwm (y.t.n1:Int) w'
  have e:PlaM.sec (y.t.n1:Int)=((10*y.t.n1:Nat):Int):=by unfold PlaM.sec;rw [if_neg (by omega),if_neg (by omega)];omega
  rw [e] at hs
  exact hs))
 have HNW:=Hz (fun w'=>K2 ((10*y.t.n1:Nat):Int) w')
 have hcnt:cnt ((10*y.t.n1:Nat):Int)=10*y.t.n1:=by unfold cnt;omega
 have hM0:=mk_new ((10*y.t.n1:Nat):Int) (mkD (y.L.take y.t.n1)).O
 have hnl:=StgJ.N6 ((10*y.t.n1:Nat):Int)
 have HMK:=Hz (fun w' g F (hb:Bw w1 w') (hF:∀i,F i→w1.heap.size≤i) (hD:Dk w' F g (newSt ((10*y.t.n1:Nat):Int)))=>qw5 m hb hF hD (by rw [hnl];exact hM0) (by rw [hnl,hcnt];exact Mr _))
 have HDI:=Hz m.di
 have HMR:=Hz (fun w' (hb:Bw w1 w')=>StoR.Wq y.t (y.L.take y.t.n1) y.A y.t.n1 y.c w' (Ims.below m.hI hb) (fun i hi=>by
  obtain⟨p,hp,e⟩:=List.getElem_of_mem hi
  have hp':p<y.t.n1:=by rw [Mk_] at hp;omega
  have:=m.ri p hp'
  rw [Mg,Mq hp] at this
  rw [←e]
  exact this) (by omega) (by omega))
 have HCD:=Hz (show ∀i,codeB (y.L.take y.t.n1) i→i<w1.heap.size from fun q ⟨i,hi,h0,o,e⟩=>by
  obtain⟨b,o',e2,hl,_⟩:=(m.hI.ok i hi).code.2.2.2 h0
  rw [e] at e2
  injection e2 with e2
  injection e2 with e2
  omega)
 have hs1:w1.heap.size=w.heap.size+1:=by rw [hw1];simp
 have HB1:=Hz hb0
 have BX1:=Hz (show Bx w y w1 from by rw [hw1];exact Bx.new w y)
 clear hf h hT hy hTw1 m hmem hcnt hM0 hnl hb0
 obtain⟨⟨fr,A1,n1,c1,TP,A2,n2,c2,TW,A3,n3,c3,TC,tr⟩,A,n,c,L⟩:=y
 dsimp only at hle1 hle2 hfn hf10 hn4
 have HB1b:=HB1
 obtain⟨a0,a1,a2,a3,a4,a5⟩:=BX1.o.cell
 dsimp only at a0 a1 a2 a3 a4 a5
 show Calls _ _ #[.agg #[.int .i64 fr,.slice A1 n1 c1,.slice A2 n2 c2,.slice A3 n3 c3,.int .i64 tr,.slice A n c]] w _
 go_enter Tryz.func16,Tryz.ntmps16
 go_upto_region 1 with (fail)
 have hw1':w.alloc (.cells #[.int .i64 fr,.slice A1 n1 c1,.slice A2 n2 c2,.slice A3 n3 c3,.int .i64 tr,.slice A n c] 29)=w1:=hw1.symm
 rw [hw1']
 clear hw1 hw1'
 go_wp2_with fail
 refine (HRR.o _ HB1.o).mono ?_
 rintro e w2 ⟨rfl,hb2⟩
 have HB2:=Hz (BX1.o.below hb2)
 have HL2:=Hz hb2
 clear hb2 a0 a1 a2 a3 a4 a5
 obtain⟨a0,a1,a2,a3,a4,a5⟩:=HB2.o.cell
 dsimp only at a0 a1 a2 a3 a4 a5
 go_wp2_with fail
 clear a0 a1 a2 a3 a4 a5 HRR
 have hd1:decide (n<n1)=false:=by simpa using hfn
 have hd2:decide ((10:Int)<(n:Int))=false:=by simp;omega
 simp only [hd1,hd2,Bool.or_self]
 clear hd1 hd2
 go_loopw [35] (fun i wr=>∃k:Nat,k≤n1∧i=.int .i64 (k:Nat)∧Hid (Bx w ⟨⟨fr,A1,n1,c1,TP,A2,n2,c2,TW,A3,n3,c3,TC,tr⟩,A,n,c,L⟩ wr)∧Hid (Bw w1 wr)) (fun i _=>n1-(intOf i).toNat)
 case atStart=>exact⟨0,Nat.zero_le _,rfl,HB2,HL2⟩
 case round=>
  obtain⟨k,hk,rfl,HBx,HLx⟩:=hrel
  clear HB2 HL2
  obtain⟨a0,a1,a2,a3,a4,a5⟩:=HBx.o.cell
  dsimp only at a0 a1 a2 a3 a4 a5
  by_cases hlt:k<n1
  ·obtain⟨bi,oi,hA,hbl,hcell⟩:=HAt.o k hlt
   subst hA
   have HCl:=Hz (fun (w':World) (hb:Bw w w') i v (h:(L.getD k im0).cells[i]?=some v)=>(hb.cell (p:=⟨bi,oi+k*8+i,none⟩) hbl).trans (hcell i v h))
   have HCK:=Hz (HCh.o k hlt)
   clear hcell
   obtain⟨im,him⟩:∃im,im=L.getD k im0:=⟨_,rfl⟩
   rw [←him] at HCl HCK
   clear him
   obtain⟨ip,iv,ih,imm,if_,is_,ir,iA,in_,ic,ixs⟩:=im
   have z0:=HCl.o wr HBx.o.bel 0 _ rfl
   have z1:=HCl.o wr HBx.o.bel 1 _ rfl
   have z2:=HCl.o wr HBx.o.bel 2 _ rfl
   have z3:=HCl.o wr HBx.o.bel 3 _ rfl
   have z4:=HCl.o wr HBx.o.bel 4 _ rfl
   have z5:=HCl.o wr HBx.o.bel 5 _ rfl
   have z6:=HCl.o wr HBx.o.bel 6 _ rfl
   have z7:=HCl.o wr HBx.o.bel 7 _ rfl
   rw [Nat.add_zero] at z0
   dsimp only at z0 z1 z2 z3 z4 z5 z6 z7
   have hkn:k<n:=by omega
   have hwl:=HBx.o.blk.lt
   have hbl2:bi<wr.heap.size:=Mw hbl HBx.o.bel.size
   go_upto_region 7 with (fail)
   go_region_held3 (fun w'=>w'.cell? ⟨w.heap.size,0,none⟩=some (.int .i64 fr)∧w'.cell? ⟨w.heap.size,1,none⟩=some (.slice A1 n1 c1)∧w'.cell? ⟨w.heap.size,2,none⟩=some (.slice A2 n2 c2)∧w'.cell? ⟨w.heap.size,3,none⟩=some (.slice A3 n3 c3)∧w'.cell? ⟨w.heap.size,4,none⟩=some (.int .i64 tr)∧w'.cell? ⟨w.heap.size,5,none⟩=some (.slice (some ⟨bi,oi,none⟩) n c)∧w'.cell? ⟨bi,oi+k*8,none⟩=some (.int .i64 ip)∧w'.cell? ⟨bi,oi+k*8+1,none⟩=some (.int .i64 iv)∧w'.cell? ⟨bi,oi+k*8+2,none⟩=some (.int .i64 ih)∧w'.cell? ⟨bi,oi+k*8+3,none⟩=some (.int .i64 imm)∧w'.cell? ⟨bi,oi+k*8+4,none⟩=some (.int .i64 if_)∧w'.cell? ⟨bi,oi+k*8+5,none⟩=some (.int .i64 is_)∧w'.cell? ⟨bi,oi+k*8+6,none⟩=some (.int .i64 ir)∧w'.cell? ⟨bi,oi+k*8+7,none⟩=some (.slice iA in_ ic))
    (first
     | go_keep
     | (go_split_ands;refine⟨?_,?_,?_,?_,?_,?_,?_,?_,?_,?_,?_,?_,?_,?_⟩ <;> (first|(rw [hb5.cell (by simpa using hwl)];assumption)|(rw [hb5.cell (by simpa using hbl2)];assumption))))
    ((go_at_call 12;refine (HCK.o _ (HBx.o.bel.trans (((Mb wr.heap.size wr).drew).mono HBx.o.bel.size))).mono ?_;rintro e w5 ⟨rfl,hb5⟩;have L5:=Hz (((Mb wr.heap.size wr).drew).trans hb5)))
   go_wp2
   go_roundw
   case rel=>exact⟨k+1,by omega,by go_num,Hz (HBx.o.below L5.o),Hz (HLx.o.trans (L5.o.mono HLx.o.size))⟩
   case measure=>simp [intOf];omega
  ·obtain rfl:n1=k:=by omega
   go_wp2_with fail
   refine (HSC.o _).mono ?_
   rintro e w3 ⟨rfl,rfl⟩
   go_wp2_with fail
   refine (HNW.o _).mono ?_
   rintro e w4 ⟨g,F,rfl,hD4,hb4,hF4⟩
   have HB4:=Hz (HBx.o.below hb4)
   have HL4:=Hz (HLx.o.trans (hb4.mono HLx.o.size))
   have HD4:=Hz (And.intro hD4 (fun i hi=>Ml HLx.o.size (hF4 i hi):∀i,F i→w1.heap.size≤i))
   clear hD4 hb4 hF4 a0 a1 a2 a3 a4 a5
   obtain⟨b0,o0,hA,_,_⟩:=HAt.o 0 (by omega)
   subst hA
   obtain⟨a0,a1,a2,a3,a4,a5⟩:=HB4.o.cell
   dsimp only at a0 a1 a2 a3 a4 a5
   have hwl:=HB4.o.blk.lt
   clear HCh HSC HNW HAt
   have hq1:n1≤c:=by omega
   have hq2:(0:Int)≤(n1:Int):=by omega
   have hq3:((n1:Int)).toNat=n1:=by omega
   have hq4:(n1:Int)≤(c:Int):=by omega
   go_upto_region 11 with (fail)
   go_region_held3 (fun w'=>w'.cell? ⟨w.heap.size,0,none⟩=some (.int .i64 fr)∧w'.cell? ⟨w.heap.size,1,none⟩=some (.slice A1 n1 c1)∧w'.cell? ⟨w.heap.size,2,none⟩=some (.slice A2 n2 c2)∧w'.cell? ⟨w.heap.size,3,none⟩=some (.slice A3 n3 c3)∧w'.cell? ⟨w.heap.size,4,none⟩=some (.int .i64 tr)∧w'.cell? ⟨w.heap.size,5,none⟩=some (.slice (some ⟨b0,o0,none⟩) n c))
    (first
     | go_keep
     | exact (BX1.o.below hal5.bel).cell)
    ((go_at_call 6;refine (HMK.o _ g F HL4.o.drew HD4.o.2 (HD4.o.1.below (Mb _ _).drew)).mono ?_;intro e w5 ho;obtain⟨F5,ζ5,Z5,t5,s5,P5,rfl,hal5,hck5,htr5,_,_,_⟩:=Opd.al ho (Mr _) HDI.o))
   have HA5:=Hz hal5
   have HB5:=Hz (BX1.o.below hal5.bel)
   have HT5:=Hz (And.intro hck5 htr5)
   have HR5:=Hz (HMR.o _ hal5.bel.drew)
   clear a0 a1 a2 a3 a4 a5 hal5 hck5 htr5 HMK HDI HD4 HB4
   obtain⟨a0,a1,a2,a3,a4,a5⟩:=HB5.o.cell
   dsimp only at a0 a1 a2 a3 a4 a5
   go_upto_region 14 with (fail)
   go_region_held3 (fun w'=>w'.cell? ⟨w.heap.size,0,none⟩=some (.int .i64 fr)∧w'.cell? ⟨w.heap.size,1,none⟩=some (.slice A1 n1 c1)∧w'.cell? ⟨w.heap.size,2,none⟩=some (.slice A2 n2 c2)∧w'.cell? ⟨w.heap.size,3,none⟩=some (.slice A3 n3 c3)∧w'.cell? ⟨w.heap.size,4,none⟩=some (.int .i64 tr)∧w'.cell? ⟨w.heap.size,5,none⟩=some (.slice (some ⟨b0,o0,none⟩) n c))
    (first
     | go_keep
     | exact (HB5.o.below ((Mb _ _).drew.trans hb6)).cell)
    ((go_at_call 13;refine HR5.o.mono ?_;rintro e w6 ⟨xb,ρ,M,rfl,hrs,hrn,hb6⟩))
   go_wp2
   refine bodyPost_ret (v:=.tuple #[.pointer (some ⟨Z5.z,0,none⟩),.pointer (some ⟨g,0,none⟩),.pointer (some ⟨xb,0,none⟩)]) (by simp [results,Tryz.results16,go_sem]) rfl ?_
   have hbb:=(Mb w5.heap.size w5).drew.trans hb6
   have hA6:=HA5.o.below hbb
   have hz:=HA5.o.dz.zm.lt
   have hF:=HA5.o.dz.dk.lt
   have hz0:=HA5.o.z0
   have hF0:=HA5.o.F0
   have hs5:w5.drew.heap.size=w5.heap.size:=rfl
   refine⟨F5,ζ5,Z5,t5,s5,P5,g,xb,ρ,M,rfl,Al.low hA6 HB1.o,HT5.o.1,HT5.o.2,hrs,fun i hi=>?_,fun i hi=>?_⟩
   ·rcases hrn i hi with h1|h1
    ·exact .inl h1
    ·exact .inr (by have:=HB1.o.size;have:=HA5.o.bel.size;omega)
   ·rcases hrn i hi with h1|h1
    ·have h2:=HCD.o i h1
     exact⟨fun h3=>by have:=hF0 i h3;omega,Mc_ fun h3=>by have:=hz0 i h3;omega⟩
    ·exact⟨fun h3=>by have:=hF i h3;omega,Mc_ fun h3=>by have:=hz i h3;omega⟩
end
end LayM
namespace LayE
open Kit Byt Mem
open TabA (Tri Ta Tris)
open ImgA (Im)
open StoR (Ims im0)
open Lay (Ly)
open ImgC (Z4)
def exIm (g:Nat) (p v:Int):Im:=⟨p,v,0,1,1,0,0,some ⟨g,0,none⟩,1,1,[0]⟩
def exL (s:Nat):Ly:=⟨⟨4,some ⟨s+1+1+1+1+1+1,0,none⟩,2,2,[⟨4,4,0⟩,⟨4,4,0⟩],some ⟨s+1+1+1+1+1+1+1,0,none⟩,1,1,[⟨0,0,1⟩],none,0,0,[],2⟩,some ⟨s+1+1+1+1+1+1+1+1,0,none⟩,3,3,[exIm (s+1+1) 0 1,exIm (s+1+1) 1 1,exIm (s+1+1) 0 2]⟩
def exW (w:World) (a b:Obj):World:=(((((((((w.alloc (.cells #[.int .i64 4,.slice (some ⟨w.heap.size+1+1+1+1+1+1,0,none⟩) 2 2,.slice (some ⟨w.heap.size+1+1+1+1+1+1+1,0,none⟩) 1 1,.slice none 0 0,.int .i64 2,.slice (some ⟨w.heap.size+1+1+1+1+1+1+1+1,0,none⟩) 3 3] 29)).alloc (.cells #[.int .i64 4,.int .i64 4,.int .i64 0] 90)).alloc (.cells #[.int .u8 0] 5)).alloc (.cells #[.int .i64 0,.int .i64 1,.int .i64 0,.int .i64 1,.int .i64 1,.int .i64 0,.int .i64 0,.slice (some ⟨w.heap.size+1+1,0,none⟩) 1 1] 33)).alloc a).alloc b).drew.alloc (.cells #[.int .i64 4,.int .i64 4,.int .i64 0,.int .i64 4,.int .i64 4,.int .i64 0] 90)).alloc (.cells #[.int .i64 0,.int .i64 0,.int .i64 1] 93)).alloc (.cells #[.int .i64 0,.int .i64 1,.int .i64 0,.int .i64 1,.int .i64 1,.int .i64 0,.int .i64 0,.slice (some ⟨w.heap.size+1+1,0,none⟩) 1 1,.int .i64 1,.int .i64 1,.int .i64 0,.int .i64 1,.int .i64 1,.int .i64 0,.int .i64 0,.slice (some ⟨w.heap.size+1+1,0,none⟩) 1 1,.int .i64 0,.int .i64 2,.int .i64 0,.int .i64 1,.int .i64 1,.int .i64 0,.int .i64 0,.slice (some ⟨w.heap.size+1+1,0,none⟩) 1 1] 33))
theorem Wv:(Tryz.prog.info? 29).map (·.size)=some 6:=by kernel_rfl
theorem drew_blk {w:World} {g:Nat} {t:TypeId} {xs:List Value} (h:Blk w g t xs):Blk w.drew g t xs:=h
theorem exW_has (w:World) (a b:Obj):Blk (exW w a b) w.heap.size 29 [.int .i64 4,.slice (some ⟨w.heap.size+1+1+1+1+1+1,0,none⟩) 2 2,.slice (some ⟨w.heap.size+1+1+1+1+1+1+1,0,none⟩) 1 1,.slice none 0 0,.int .i64 2,.slice (some ⟨w.heap.size+1+1+1+1+1+1+1+1,0,none⟩) 3 3]∧Blk (exW w a b) (w.heap.size+1+1) 5 [.int .u8 0]∧Blk (exW w a b) (w.heap.size+1+1+1+1+1+1) 90 [.int .i64 4,.int .i64 4,.int .i64 0,.int .i64 4,.int .i64 4,.int .i64 0]∧Blk (exW w a b) (w.heap.size+1+1+1+1+1+1+1) 93 [.int .i64 0,.int .i64 0,.int .i64 1]∧Blk (exW w a b) (w.heap.size+1+1+1+1+1+1+1+1) 33 [.int .i64 0,.int .i64 1,.int .i64 0,.int .i64 1,.int .i64 1,.int .i64 0,.int .i64 0,.slice (some ⟨w.heap.size+1+1,0,none⟩) 1 1,.int .i64 1,.int .i64 1,.int .i64 0,.int .i64 1,.int .i64 1,.int .i64 0,.int .i64 0,.slice (some ⟨w.heap.size+1+1,0,none⟩) 1 1,.int .i64 0,.int .i64 2,.int .i64 0,.int .i64 1,.int .i64 1,.int .i64 0,.int .i64 0,.slice (some ⟨w.heap.size+1+1,0,none⟩) 1 1]∧Bw w (exW w a b):=by
 unfold exW
 have s2:((w.alloc (.cells #[.int .i64 4,.slice (some ⟨w.heap.size+1+1+1+1+1+1,0,none⟩) 2 2,.slice (some ⟨w.heap.size+1+1+1+1+1+1+1,0,none⟩) 1 1,.slice none 0 0,.int .i64 2,.slice (some ⟨w.heap.size+1+1+1+1+1+1+1+1,0,none⟩) 3 3] 29)).alloc (.cells #[.int .i64 4,.int .i64 4,.int .i64 0] 90)).heap.size=w.heap.size+1+1:=by simp
 have sD:((((((w.alloc (.cells #[.int .i64 4,.slice (some ⟨w.heap.size+1+1+1+1+1+1,0,none⟩) 2 2,.slice (some ⟨w.heap.size+1+1+1+1+1+1+1,0,none⟩) 1 1,.slice none 0 0,.int .i64 2,.slice (some ⟨w.heap.size+1+1+1+1+1+1+1+1,0,none⟩) 3 3] 29)).alloc (.cells #[.int .i64 4,.int .i64 4,.int .i64 0] 90)).alloc (.cells #[.int .u8 0] 5)).alloc (.cells #[.int .i64 0,.int .i64 1,.int .i64 0,.int .i64 1,.int .i64 1,.int .i64 0,.int .i64 0,.slice (some ⟨w.heap.size+1+1,0,none⟩) 1 1] 33)).alloc a).alloc b).drew.heap.size=w.heap.size+1+1+1+1+1+1:=by show ((((((w.alloc (.cells #[.int .i64 4,.slice (some ⟨w.heap.size+1+1+1+1+1+1,0,none⟩) 2 2,.slice (some ⟨w.heap.size+1+1+1+1+1+1+1,0,none⟩) 1 1,.slice none 0 0,.int .i64 2,.slice (some ⟨w.heap.size+1+1+1+1+1+1+1+1,0,none⟩) 3 3] 29)).alloc (.cells #[.int .i64 4,.int .i64 4,.int .i64 0] 90)).alloc (.cells #[.int .u8 0] 5)).alloc (.cells #[.int .i64 0,.int .i64 1,.int .i64 0,.int .i64 1,.int .i64 1,.int .i64 0,.int .i64 0,.slice (some ⟨w.heap.size+1+1,0,none⟩) 1 1] 33)).alloc a).alloc b).heap.size=_;simp
 have s7:(((((((w.alloc (.cells #[.int .i64 4,.slice (some ⟨w.heap.size+1+1+1+1+1+1,0,none⟩) 2 2,.slice (some ⟨w.heap.size+1+1+1+1+1+1+1,0,none⟩) 1 1,.slice none 0 0,.int .i64 2,.slice (some ⟨w.heap.size+1+1+1+1+1+1+1+1,0,none⟩) 3 3] 29)).alloc (.cells #[.int .i64 4,.int .i64 4,.int .i64 0] 90)).alloc (.cells #[.int .u8 0] 5)).alloc (.cells #[.int .i64 0,.int .i64 1,.int .i64 0,.int .i64 1,.int .i64 1,.int .i64 0,.int .i64 0,.slice (some ⟨w.heap.size+1+1,0,none⟩) 1 1] 33)).alloc a).alloc b).drew.alloc (.cells #[.int .i64 4,.int .i64 4,.int .i64 0,.int .i64 4,.int .i64 4,.int .i64 0] 90)).heap.size=w.heap.size+1+1+1+1+1+1+1:=by rw [Ms,sD]
 have s8:((((((((w.alloc (.cells #[.int .i64 4,.slice (some ⟨w.heap.size+1+1+1+1+1+1,0,none⟩) 2 2,.slice (some ⟨w.heap.size+1+1+1+1+1+1+1,0,none⟩) 1 1,.slice none 0 0,.int .i64 2,.slice (some ⟨w.heap.size+1+1+1+1+1+1+1+1,0,none⟩) 3 3] 29)).alloc (.cells #[.int .i64 4,.int .i64 4,.int .i64 0] 90)).alloc (.cells #[.int .u8 0] 5)).alloc (.cells #[.int .i64 0,.int .i64 1,.int .i64 0,.int .i64 1,.int .i64 1,.int .i64 0,.int .i64 0,.slice (some ⟨w.heap.size+1+1,0,none⟩) 1 1] 33)).alloc a).alloc b).drew.alloc (.cells #[.int .i64 4,.int .i64 4,.int .i64 0,.int .i64 4,.int .i64 4,.int .i64 0] 90)).alloc (.cells #[.int .i64 0,.int .i64 0,.int .i64 1] 93)).heap.size=w.heap.size+1+1+1+1+1+1+1+1:=by rw [Ms,s7]
 refine⟨?_,?_,?_,?_,?_,?_⟩
 ·exact (((drew_blk ((((((Blk.new w 29 [.int .i64 4,.slice (some ⟨w.heap.size+1+1+1+1+1+1,0,none⟩) 2 2,.slice (some ⟨w.heap.size+1+1+1+1+1+1+1,0,none⟩) 1 1,.slice none 0 0,.int .i64 2,.slice (some ⟨w.heap.size+1+1+1+1+1+1+1+1,0,none⟩) 3 3]).alloc _).alloc _).alloc _).alloc _).alloc _)).alloc _).alloc _).alloc _
 ·have h:=Blk.new ((w.alloc (.cells #[.int .i64 4,.slice (some ⟨w.heap.size+1+1+1+1+1+1,0,none⟩) 2 2,.slice (some ⟨w.heap.size+1+1+1+1+1+1+1,0,none⟩) 1 1,.slice none 0 0,.int .i64 2,.slice (some ⟨w.heap.size+1+1+1+1+1+1+1+1,0,none⟩) 3 3] 29)).alloc (.cells #[.int .i64 4,.int .i64 4,.int .i64 0] 90)) 5 [.int .u8 0]
  rw [s2] at h
  exact (((drew_blk (((h.alloc _).alloc _).alloc _)).alloc _).alloc _).alloc _
 ·have h:=Blk.new ((((((w.alloc (.cells #[.int .i64 4,.slice (some ⟨w.heap.size+1+1+1+1+1+1,0,none⟩) 2 2,.slice (some ⟨w.heap.size+1+1+1+1+1+1+1,0,none⟩) 1 1,.slice none 0 0,.int .i64 2,.slice (some ⟨w.heap.size+1+1+1+1+1+1+1+1,0,none⟩) 3 3] 29)).alloc (.cells #[.int .i64 4,.int .i64 4,.int .i64 0] 90)).alloc (.cells #[.int .u8 0] 5)).alloc (.cells #[.int .i64 0,.int .i64 1,.int .i64 0,.int .i64 1,.int .i64 1,.int .i64 0,.int .i64 0,.slice (some ⟨w.heap.size+1+1,0,none⟩) 1 1] 33)).alloc a).alloc b).drew 90 [.int .i64 4,.int .i64 4,.int .i64 0,.int .i64 4,.int .i64 4,.int .i64 0]
  rw [sD] at h
  exact (h.alloc _).alloc _
 ·have h:=Blk.new (((((((w.alloc (.cells #[.int .i64 4,.slice (some ⟨w.heap.size+1+1+1+1+1+1,0,none⟩) 2 2,.slice (some ⟨w.heap.size+1+1+1+1+1+1+1,0,none⟩) 1 1,.slice none 0 0,.int .i64 2,.slice (some ⟨w.heap.size+1+1+1+1+1+1+1+1,0,none⟩) 3 3] 29)).alloc (.cells #[.int .i64 4,.int .i64 4,.int .i64 0] 90)).alloc (.cells #[.int .u8 0] 5)).alloc (.cells #[.int .i64 0,.int .i64 1,.int .i64 0,.int .i64 1,.int .i64 1,.int .i64 0,.int .i64 0,.slice (some ⟨w.heap.size+1+1,0,none⟩) 1 1] 33)).alloc a).alloc b).drew.alloc (.cells #[.int .i64 4,.int .i64 4,.int .i64 0,.int .i64 4,.int .i64 4,.int .i64 0] 90)) 93 [.int .i64 0,.int .i64 0,.int .i64 1]
  rw [s7] at h
  exact h.alloc _
 ·have h:=Blk.new ((((((((w.alloc (.cells #[.int .i64 4,.slice (some ⟨w.heap.size+1+1+1+1+1+1,0,none⟩) 2 2,.slice (some ⟨w.heap.size+1+1+1+1+1+1+1,0,none⟩) 1 1,.slice none 0 0,.int .i64 2,.slice (some ⟨w.heap.size+1+1+1+1+1+1+1+1,0,none⟩) 3 3] 29)).alloc (.cells #[.int .i64 4,.int .i64 4,.int .i64 0] 90)).alloc (.cells #[.int .u8 0] 5)).alloc (.cells #[.int .i64 0,.int .i64 1,.int .i64 0,.int .i64 1,.int .i64 1,.int .i64 0,.int .i64 0,.slice (some ⟨w.heap.size+1+1,0,none⟩) 1 1] 33)).alloc a).alloc b).drew.alloc (.cells #[.int .i64 4,.int .i64 4,.int .i64 0,.int .i64 4,.int .i64 4,.int .i64 0] 90)).alloc (.cells #[.int .i64 0,.int .i64 0,.int .i64 1] 93)) 33 [.int .i64 0,.int .i64 1,.int .i64 0,.int .i64 1,.int .i64 1,.int .i64 0,.int .i64 0,.slice (some ⟨w.heap.size+1+1,0,none⟩) 1 1,.int .i64 1,.int .i64 1,.int .i64 0,.int .i64 1,.int .i64 1,.int .i64 0,.int .i64 0,.slice (some ⟨w.heap.size+1+1,0,none⟩) 1 1,.int .i64 0,.int .i64 2,.int .i64 0,.int .i64 1,.int .i64 1,.int .i64 0,.int .i64 0,.slice (some ⟨w.heap.size+1+1,0,none⟩) 1 1]
  rw [s8] at h
  exact h
 ·have h2:Bw w ((w.alloc (.cells #[.int .i64 4,.slice (some ⟨w.heap.size+1+1+1+1+1+1,0,none⟩) 2 2,.slice (some ⟨w.heap.size+1+1+1+1+1+1+1,0,none⟩) 1 1,.slice none 0 0,.int .i64 2,.slice (some ⟨w.heap.size+1+1+1+1+1+1+1+1,0,none⟩) 3 3] 29)).alloc (.cells #[.int .i64 4,.int .i64 4,.int .i64 0] 90)):=((Mb _ _).alloc (Mr _) _).alloc (by simp) _
  have h4:Bw w ((((w.alloc (.cells #[.int .i64 4,.slice (some ⟨w.heap.size+1+1+1+1+1+1,0,none⟩) 2 2,.slice (some ⟨w.heap.size+1+1+1+1+1+1+1,0,none⟩) 1 1,.slice none 0 0,.int .i64 2,.slice (some ⟨w.heap.size+1+1+1+1+1+1+1+1,0,none⟩) 3 3] 29)).alloc (.cells #[.int .i64 4,.int .i64 4,.int .i64 0] 90)).alloc (.cells #[.int .u8 0] 5)).alloc (.cells #[.int .i64 0,.int .i64 1,.int .i64 0,.int .i64 1,.int .i64 1,.int .i64 0,.int .i64 0,.slice (some ⟨w.heap.size+1+1,0,none⟩) 1 1] 33)):=(h2.alloc h2.size _).alloc (by rw [Ms];have:=h2.size;omega) _
  have h6:Bw w ((((((w.alloc (.cells #[.int .i64 4,.slice (some ⟨w.heap.size+1+1+1+1+1+1,0,none⟩) 2 2,.slice (some ⟨w.heap.size+1+1+1+1+1+1+1,0,none⟩) 1 1,.slice none 0 0,.int .i64 2,.slice (some ⟨w.heap.size+1+1+1+1+1+1+1+1,0,none⟩) 3 3] 29)).alloc (.cells #[.int .i64 4,.int .i64 4,.int .i64 0] 90)).alloc (.cells #[.int .u8 0] 5)).alloc (.cells #[.int .i64 0,.int .i64 1,.int .i64 0,.int .i64 1,.int .i64 1,.int .i64 0,.int .i64 0,.slice (some ⟨w.heap.size+1+1,0,none⟩) 1 1] 33)).alloc a).alloc b):=(h4.alloc h4.size _).alloc (by rw [Ms];have:=h4.size;omega) _
  have hD:=h6.drew
  have h7:=hD.alloc hD.size (.cells #[.int .i64 4,.int .i64 4,.int .i64 0,.int .i64 4,.int .i64 4,.int .i64 0] 90)
  have h8:=h7.alloc h7.size (.cells #[.int .i64 0,.int .i64 0,.int .i64 1] 93)
  exact h8.alloc h8.size _
theorem ex_ok {w':World} {s:Nat} (h2:Blk w' (s+1+1) 5 [.int .u8 0]) (h6:Blk w' (s+1+1+1+1+1+1) 90 [.int .i64 4,.int .i64 4,.int .i64 0,.int .i64 4,.int .i64 4,.int .i64 0]) (h7:Blk w' (s+1+1+1+1+1+1+1) 93 [.int .i64 0,.int .i64 0,.int .i64 1]) (h8:Blk w' (s+1+1+1+1+1+1+1+1) 33 [.int .i64 0,.int .i64 1,.int .i64 0,.int .i64 1,.int .i64 1,.int .i64 0,.int .i64 0,.slice (some ⟨s+1+1,0,none⟩) 1 1,.int .i64 1,.int .i64 1,.int .i64 0,.int .i64 1,.int .i64 1,.int .i64 0,.int .i64 0,.slice (some ⟨s+1+1,0,none⟩) 1 1,.int .i64 0,.int .i64 2,.int .i64 0,.int .i64 1,.int .i64 1,.int .i64 0,.int .i64 0,.slice (some ⟨s+1+1,0,none⟩) 1 1]):(exL s).ok w':=by
 have hR:Rd w' (some ⟨s+1+1,0,none⟩) 1 1 (u8n [0]):=ImgS.Rd.of_blk (k:=1) (xs:=[0]) h2 rfl (Mr _) (by omega)
 have hz:∀x:Int,x=0∨x=1∨x=2→Lay.n64 x:=fun x hx=>by unfold Lay.n64;omega
 have hI:∀p v:Int,(p=0∨p=1)→(v=1∨v=2)→(exIm (s+1+1) p v).ok w'∧Lay.I64 (exIm (s+1+1) p v):=fun p v hp hv=>
  ⟨⟨hR,fun u hu=>by simp [exIm] at hu;omega⟩,⟨hz p (by omega),hz v (by omega),hz 0 (by omega),hz 1 (by omega),hz 1 (by omega),hz 0 (by omega),hz 0 (by omega)⟩⟩
 have hall:∀i ∈ (exL s).L,i.ok w'∧Lay.I64 i:=fun i hi=>by
  simp only [exL,List.mem_cons,List.not_mem_nil,or_false] at hi
  rcases hi with rfl|rfl|rfl
  ·exact hI 0 1 (by omega) (by omega)
  ·exact hI 1 1 (by omega) (by omega)
  ·exact hI 0 2 (by omega) (by omega)
 have tok:∀r ∈ ([⟨4,4,0⟩,⟨4,4,0⟩]:List Tri),r.ok:=by intro r hr;simp only [List.mem_cons,List.not_mem_nil,or_false] at hr;rcases hr with rfl|rfl <;> exact⟨by decide,by decide,by decide,by decide,by decide,by decide⟩
 have wok:∀r ∈ ([⟨0,0,1⟩]:List Tri),r.ok:=by intro r hr;simp only [List.mem_cons,List.not_mem_nil,or_false] at hr;rcases hr with rfl;exact⟨by decide,by decide,by decide,by decide,by decide,by decide⟩
 refine⟨⟨?_,?_,Tris.nil _,by show -9223372036854775808≤(4:Int);omega,by show (4:Int)≤9223372036854775807;omega,by show -9223372036854775808≤(2:Int);omega,by show (2:Int)≤9223372036854775807;omega⟩,⟨rfl,⟨Mr _,by show 3≤9223372036854775807;omega⟩,fun k hk=>⟨_,_,rfl,h8.lt,fun j v hv=>?_⟩,fun i hi=>(hall i hi).1⟩,fun i hi=>(hall i hi).2⟩
 ·refine⟨rfl,Mr _,by show 2≤9223372036854775807;omega,tok,fun _=>⟨_,_,rfl,h6.lt,fun k r hr j u hu=>?_⟩⟩
  rw [Nat.zero_add]
  match k,hr with
  | 0,hr=>injection hr with hr;subst hr;match j,hu with|0,hu=>exact h6.cell (i:=0) hu|1,hu=>exact h6.cell (i:=1) hu|2,hu=>exact h6.cell (i:=2) hu|j+3,hu=>simp [Tri.cells] at hu
  | 1,hr=>injection hr with hr;subst hr;match j,hu with|0,hu=>exact h6.cell (i:=3) hu|1,hu=>exact h6.cell (i:=4) hu|2,hu=>exact h6.cell (i:=5) hu|j+3,hu=>simp [Tri.cells] at hu
  | k+2,hr=>simp [exL] at hr
 ·refine⟨rfl,Mr _,by show 1≤9223372036854775807;omega,wok,fun _=>⟨_,_,rfl,h7.lt,fun k r hr j u hu=>?_⟩⟩
  rw [Nat.zero_add]
  match k,hr with
  | 0,hr=>injection hr with hr;subst hr;match j,hu with|0,hu=>exact h7.cell (i:=0) hu|1,hu=>exact h7.cell (i:=1) hu|2,hu=>exact h7.cell (i:=2) hu|j+3,hu=>simp [Tri.cells] at hu
  | k+1,hr=>simp [exL] at hr
 ·rw [Nat.zero_add]
  have hj:j<8:=(List.getElem?_eq_some_iff.1 hv).1
  refine h8.cell ?_
  match k,hk with
  | 0,_=>match j,hj with|0,_=>exact hv|1,_=>exact hv|2,_=>exact hv|3,_=>exact hv|4,_=>exact hv|5,_=>exact hv|6,_=>exact hv|7,_=>exact hv
  | 1,_=>match j,hj with|0,_=>exact hv|1,_=>exact hv|2,_=>exact hv|3,_=>exact hv|4,_=>exact hv|5,_=>exact hv|6,_=>exact hv|7,_=>exact hv
  | 2,_=>match j,hj with|0,_=>exact hv|1,_=>exact hv|2,_=>exact hv|3,_=>exact hv|4,_=>exact hv|5,_=>exact hv|6,_=>exact hv|7,_=>exact hv
theorem example_any (w:World):Calls Tryz.prog 20 #[] w fun e w'=>e=.returned (exL w.heap.size).val∧(exL w.heap.size).ok w'∧Bw w w':=by
 have H1:=Hz (exW_has w (.cells #[.int .i64 1,.int .i64 1,.int .i64 0,.int .i64 1,.int .i64 1,.int .i64 0,.int .i64 0,.slice (some ⟨w.heap.size+1+1,0,none⟩) 1 1] 33) (.cells #[.int .i64 0,.int .i64 2,.int .i64 0,.int .i64 1,.int .i64 1,.int .i64 0,.int .i64 0,.slice (some ⟨w.heap.size+1+1,0,none⟩) 1 1] 33))
 have H2:=Hz (exW_has w (.cells #[.int .i64 0,.int .i64 2,.int .i64 0,.int .i64 1,.int .i64 1,.int .i64 0,.int .i64 0,.slice (some ⟨w.heap.size+1+1,0,none⟩) 1 1] 33) (.cells #[.int .i64 1,.int .i64 1,.int .i64 0,.int .i64 1,.int .i64 1,.int .i64 0,.int .i64 0,.slice (some ⟨w.heap.size+1+1,0,none⟩) 1 1] 33))
 go_enter Tryz.func20,Tryz.ntmps20
 go_wp2_with fail
 go_region
 ·go_wp2_with fail
  refine Z4 (g:=w.heap.size) (t:=29) (cs:=#[.int .i64 4,.slice (some ⟨w.heap.size+1+1+1+1+1+1,0,none⟩) 2 2,.slice (some ⟨w.heap.size+1+1+1+1+1+1+1,0,none⟩) 1 1,.slice none 0 0,.int .i64 2,.slice (some ⟨w.heap.size+1+1+1+1+1+1+1+1,0,none⟩) 3 3]) Tryz.results20 rfl rfl H1.o.1 Tryz.underlying29 rfl Wv ?_
  exact⟨rfl,ex_ok H1.o.2.1 H1.o.2.2.1 H1.o.2.2.2.1 H1.o.2.2.2.2.1,H1.o.2.2.2.2.2⟩
 ·go_wp2_with fail
  refine Z4 (g:=w.heap.size) (t:=29) (cs:=#[.int .i64 4,.slice (some ⟨w.heap.size+1+1+1+1+1+1,0,none⟩) 2 2,.slice (some ⟨w.heap.size+1+1+1+1+1+1+1,0,none⟩) 1 1,.slice none 0 0,.int .i64 2,.slice (some ⟨w.heap.size+1+1+1+1+1+1+1+1,0,none⟩) 3 3]) Tryz.results20 rfl rfl H2.o.1 Tryz.underlying29 rfl Wv ?_
  exact⟨rfl,ex_ok H2.o.2.1 H2.o.2.2.1 H2.o.2.2.2.1 H2.o.2.2.2.2.1,H2.o.2.2.2.2.2⟩
end LayE
namespace StoTr
open RecM StgM CmtM StoM StoV StoK StoI1
open ImgT (Ig iG)
open ImgA (Im)
open StoR (igOf)
open ImgS (closed)
open ImgP (head)
structure Tr (I0:Nat→Nat→Ig) (xs:List Nat) (ses:Int) (p j:Nat) (D:Dc):Prop where
 r:(D.O p).r=one p
 x:Ld xs ses j ((D.O p).x 1)
 I:D.I=I0
def rb (T:Nat) (p m:Nat):Rc:=if m≤T then ⟨p,2+m,1,0,T-m,0⟩ else ⟨p,3+T,0,0,0,2⟩
structure Tb (I0:Nat→Nat→Ig) (i:Ig) (T p m:Nat) (D:Dc):Prop where
 r:(D.O p).r=rb T p m
 new:D.I p 1=i
 old:D.I p 0=I0 p 0
section
variable {n:Nat} {T:Int} {chk:Nat→Ig→Int→Int} {D:Dc} {p j m:Nat} {I0:Nat→Nat→Ig} {xs:List Nat} {ses:Int}
theorem H7 (hp:p<n) (h:(D.O p).r=one p):dfr n D p=0:=by
 unfold dfr
 rw [if_neg (by omega),show ((p:Int)).toNat=p from by omega,h,if_neg (show ¬((one p).a≠(one p).c) from fun e=>e rfl)]
theorem U1 (h:(D.O p).r=one p):spr (D.O p)=1:=by unfold spr;rw [h];rfl
theorem qw7 (hp:p<n) (h:(D.O p).r=one p) (hs:1≤ses∧ses≤65535) (hx:1≤xs.length∧xs.length≤160) :
 (dDo n T chk D ⟨0,p,ses,(xs.length:Nat),0,[]⟩).2=0∧Tr D.I xs ses p 0 (dDo n T chk D ⟨0,p,ses,(xs.length:Nat),0,[]⟩).1:=by
 have e:dDo n T chk D ⟨0,p,ses,(xs.length:Nat),0,[]⟩=dslot D p ⟨0,ses,(xs.length:Nat),0,[]⟩:=by
  unfold dDo
  rw [if_pos rfl,if_neg (by rw [H7 hp h];omega),show ((p:Int)).toNat=p from by omega]
 have hd:dA ((D.O p).x 1) ⟨0,ses,(xs.length:Nat),0,[]⟩=rB ((D.O p).x 1) ses (xs.length:Nat):=by unfold dA;rw [if_pos rfl]
 have hl:=ld_first (xs:=xs) ((D.O p).x 1) hs hx
 rw [e]
 unfold dslot
 rw [U1 h,hd]
 refine⟨hl.1,?_,?_,rfl⟩
 ·show (upd D.O p _ p).r=_
  rw [Qw];exact h
 ·show Ld xs ses 0 ((upd D.O p _ p).x 1)
  rw [Qw]
  show Ld xs ses 0 (upd (D.O p).x 1 _ 1)
  rw [Qw];exact hl.2
theorem tr_load (hp:p<n) (h:Tr I0 xs ses p j D) (hj:j<blocks (xs.length:Nat)) :
 (dDo n T chk D ⟨1,p,ses,0,(j:Nat),bk xs j⟩).2=0∧Tr I0 xs ses p (j+1) (dDo n T chk D ⟨1,p,ses,0,(j:Nat),bk xs j⟩).1:=by
 have e:dDo n T chk D ⟨1,p,ses,0,(j:Nat),bk xs j⟩=dslot D p ⟨1,ses,0,(j:Nat),bk xs j⟩:=by
  unfold dDo
  rw [if_neg (by show ¬(1:Nat)=0;omega),if_pos rfl,if_neg (by rw [H7 hp h.r];omega),show ((p:Int)).toNat=p from by omega]
 have hd:dA ((D.O p).x 1) ⟨1,ses,0,(j:Nat),bk xs j⟩=rP ((D.O p).x 1) ses (j:Nat) (bk xs j):=by unfold dA;rw [if_neg (by show ¬(1:Nat)=0;omega),if_pos rfl]
 have hl:=ld_put h.x (by rw [h.x.len];exact hj)
 rw [e]
 unfold dslot
 rw [U1 h.r,hd]
 refine⟨hl.1,?_,?_,h.I⟩
 ·show (upd D.O p _ p).r=_
  rw [Qw];exact h.r
 ·show Ld xs ses (j+1) ((upd D.O p _ p).x 1)
  rw [Qw]
  show Ld xs ses (j+1) (upd (D.O p).x 1 _ 1)
  rw [Qw];exact hl.2
theorem qq0 (hp:p≤3) {T:Nat} (hT:T≤7) (m:Nat):(rb T p m).right:=by
 unfold rb
 split
 ·refine⟨⟨by show 0≤(p:Int)∧(p:Int)≤3;omega,by show 1≤(2+m:Int)∧(2+m:Int)≤4294967295;omega,by show (0:Int)≤1∧(1:Int)≤1;omega,by show (0:Int)≤0∧(0:Int)≤1;omega⟩,by show 0≤(T-m:Int)∧(T-m:Int)≤7;omega,by show (0:Int)≤0∧(0:Int)≤3;omega,fun e=>absurd e (by show ¬(1:Int)=0;omega),by show ¬bitOn 0 1;decide,by show ¬bitOn 0 0;decide⟩
 ·refine⟨⟨by show 0≤(p:Int)∧(p:Int)≤3;omega,by show 1≤(3+T:Int)∧(3+T:Int)≤4294967295;omega,by show (0:Int)≤0∧(0:Int)≤1;omega,by show (0:Int)≤0∧(0:Int)≤1;omega⟩,by show (0:Int)≤0∧(0:Int)≤7;omega,by show (0:Int)≤2∧(2:Int)≤3;omega,fun _=>rfl,by show ¬bitOn 2 0;decide,by show ¬bitOn 2 0;decide⟩
theorem nx_yes {a b:Rc} (hq:a.q<4294967295) (h:(nextR a b).right):nx a b=(nextR a b,0):=by
 unfold nx
 rw [if_neg (by omega),if_pos h]
theorem tr_seal (hp:p<n) (hn:n≤4) {T:Nat} (hT:T≤7) (i:Im) (hin:i.xs.length=i.n) (hir:ImgB.right i) (h:Tr I0 (closed (head i)) ses p (blocks ((closed (head i)).length:Nat)) D) (hc:chk p (igOf i) (I0 p 0).v=0) :
 (dDo n T chk D ⟨2,p,ses,0,0,[]⟩).2=0∧Tb I0 (igOf i) T p 0 (dDo n T chk D ⟨2,p,ses,0,0,[]⟩).1:=by
 have hlen:=ldI_len i hin hir
 have hg:got D p=(closed (head i),0):=by
  unfold got
  rw [U1 h.r]
  exact ld_all h.x hlen
 have hi:=qvy i hin hir
 have hnr:nextR (D.O p).r (sealR T D p)=rb T p 0:=by
  unfold sealR
  rw [U1 h.r,h.r]
  unfold rb
  rw [if_pos (Nat.zero_le _)]
  show (⟨(p:Int),1+1,((1:Nat):Int),0,T,0⟩:Rc)=⟨p,2+((0:Nat):Int),1,0,T-((0:Nat):Int),0⟩
  simp
 have hx:nx (D.O p).r (sealR T D p)=(rb T p 0,0):=by
  rw [nx_yes (by rw [h.r];show (1:Int)<_;omega) (by rw [hnr];exact qq0 (by omega) hT 0),hnr]
 have e:dDo n T chk D ⟨2,p,ses,0,0,[]⟩=(sealD T D p,0):=by
  unfold dDo
  rw [if_neg (by show ¬(2:Nat)=0;omega),if_neg (by show ¬(2:Nat)=1;omega),if_pos rfl]
  unfold dseal
  have hb:dbg n D p ses=0:=by
   unfold dbg
   rw [if_neg (by rw [H7 hp h.r];omega),show ((p:Int)).toNat=p from by omega,U1 h.r,if_neg (by rw [h.x.has];simp),if_neg (by rw [h.x.s];omega)]
  rw [if_neg (by rw [hb];omega),show ((p:Int)).toNat=p from by omega,hg,if_neg (by simp),hi,if_neg (by show ¬((0:Int)≠0);omega),h.r,h.I]
  rw [show (I0 p (sl (one p).a)).v=(I0 p 0).v from rfl,hc,if_neg (by omega)]
  rw [←h.r,hx]
  exact if_pos rfl
 rw [e]
 refine⟨rfl,?_,?_,?_⟩
 ·show (upd D.O p _ p).r=_
  rw [Qw,hx]
 ·show upd D.I p _ p 1=_
  rw [Qw,U1 h.r,Qw,hg,hi]
 ·show upd D.I p _ p 0=_
  rw [Qw,U1 h.r,upd_ne _ _ (by omega),h.I]
theorem tr_boot (hp:p<n) (hn:n≤4) {T:Nat} (hT:T≤7) {i:Ig} (h:Tb I0 i T p m D) :
 (dDo n T chk D ⟨4,p,0,0,0,[]⟩).2=0∧Tb I0 i T p (m+1) (dDo n T chk D ⟨4,p,0,0,0,[]⟩).1:=by
 have e0:dDo n T chk D ⟨4,p,0,0,0,[]⟩=if (D.O p).r.a=(D.O p).r.c then (D,0) else dsave D p (bootR (D.O p).r):=by
  unfold dDo
  rw [if_neg (by show ¬(4:Nat)=0;omega),if_neg (by show ¬(4:Nat)=1;omega),if_neg (by show ¬(4:Nat)=2;omega),if_neg (by show ¬(4:Nat)=3;omega),if_pos rfl,if_neg (show ¬((p:Int)<0∨(n:Int)≤p) from by omega),show ((p:Int)).toNat=p from by omega]
 rw [e0,h.r]
 by_cases hm:m≤T
 ·have hr:rb T p m=⟨p,2+m,1,0,T-m,0⟩:=if_pos hm
  have hnr:nextR (rb T p m) (bootR (rb T p m))=rb T p (m+1):=by
   rw [hr]
   unfold bootR
   by_cases hl:m=T
   ·rw [if_pos (by show (T-m:Int)=0;omega)]
    unfold rb
    rw [if_neg (by omega)]
    show (⟨(p:Int),2+m+1,0,0,T-m,1+1⟩:Rc)=_
    rw [hl]
    congr 1 <;> omega
   ·rw [if_neg (by show ¬(T-m:Int)=0;omega)]
    unfold rb
    rw [if_pos (by omega)]
    show (⟨(p:Int),2+m+1,1,0,T-m-1,0⟩:Rc)=⟨p,2+((m+1:Nat):Int),1,0,T-((m+1:Nat):Int),0⟩
    congr 1 <;> omega
  have hx:nx (rb T p m) (bootR (rb T p m))=(rb T p (m+1),0):=by
   rw [nx_yes (by rw [hr];show (2+m:Int)<_;omega) (by rw [hnr];exact qq0 (by omega) hT _),hnr]
  rw [if_neg (by rw [hr];show ¬(1:Int)=0;omega)]
  unfold dsave
  rw [h.r,hx]
  refine⟨rfl,?_,h.new,h.old⟩
  show (upd D.O p _ p).r=_
  rw [Qw]
 ·have hr:∀k,¬k≤T→rb T p k=⟨p,3+T,0,0,0,2⟩:=fun k hk=>if_neg hk
  rw [if_pos (by rw [hr m hm])]
  exact⟨rfl,by show (D.O p).r=_;rw [h.r,hr m hm,hr (m+1) (by omega)],h.new,h.old⟩
end
end StoTr
namespace LayK
open CpaM LayF LayE LayM TabC TabD
open TabA (Tri Ta)
open ImgA (Im)
open ImgT (Ig)
open StoR (Ims im0 igOf mkD)
open Lay (Ly)
open StoCk (ck)
open ImgS (closed)
open ImgP (head)
open BitM (hb)
theorem ck_yes {t:Ta} {p:Nat} {g:Ig} {v:Int} (hr:right t) (hp:p<t.n1) (hi:ImgB.right (StoT.imo g none g.xs.length 0)) (hx : ¬PortBad t p (StoT.imo g none g.xs.length 0)) (h1:g.p=p∧g.h=(pof t p).c) (h2:g.m≤(pof t p).a∧g.f≤(pof t p).b) (h3:v<g.v):ck t p g v=0:=by
 have h:=StoCk.tri_ck t p g
 have e1:=h.rt.2 hr
 have e2:=h.ri.2 hi
 have e3:StoCk.bx t p g=false:=by
  cases hb:StoCk.bx t p g with
  | false=>rfl
  | true=>exact absurd (h.rx.1 hb) hx
 unfold ck chk
 rw [e1,e2,e3,if_neg (by simp),if_neg (by simp;omega)]
 show (if g.p≠p∨g.h≠(pof t p).c then (12:Int) else if (pof t p).a<g.m∨(pof t p).b<g.f then 14 else if false=true then 15 else if g.v≤v then 13 else 0)=0
 rw [if_neg (show ¬(g.p≠p∨g.h≠(pof t p).c) from fun e=>e.elim (fun e=>e h1.1) (fun e=>e h1.2))]
 rw [if_neg (show ¬((pof t p).a<g.m∨(pof t p).b<g.f) from by omega),if_neg (by simp),if_neg (show ¬g.v≤v from by omega)]
theorem hb0 (k:Nat) (hk:k<4):hb 0 k=false:=by
 rcases (show k=0∨k=1∨k=2∨k=3 from by omega) with rfl|rfl|rfl|rfl <;> decide
theorem ex_right (s:Nat):right (exL s).t:=by
 show TOk 4 2 [⟨4,4,0⟩,⟨4,4,0⟩] [⟨0,0,1⟩] []
 refine⟨by decide,by decide,⟨by decide,fun k r hr=>?_⟩,⟨by decide,fun k r hr=>?_,0,⟨0,0,1⟩,rfl,rfl⟩,⟨by decide,fun k r hr=>?_⟩⟩
 ·match k,hr with
  | 0,hr=>injection hr with hr;subst hr;exact⟨by decide,by decide,by decide⟩
  | 1,hr=>injection hr with hr;subst hr;exact⟨by decide,by decide,by decide⟩
  | k+2,hr=>simp at hr
 ·match k,hr with
  | 0,hr=>injection hr with hr;subst hr;exact⟨by decide,by decide,by decide⟩
  | k+1,hr=>simp at hr
 ·simp at hr
theorem ex_im (g:Nat) (p v:Int) (hp:p=0∨p=1) (hv:v=1∨v=2):ImgB.right (exIm g p v):=by
 unfold ImgB.right exIm
 dsimp only
 omega
theorem ex_ck (s g:Nat) (p:Nat) (u v:Int) (hp:p<2) (hu:u=1∨u=2) (hv:v<u):ck (exL s).t p (igOf (exIm g p u)) v=0:=by
 refine ck_yes (ex_right s) hp ?_ ?_ ?_ ?_ hv
 ·have:=ex_im g p u (by omega) hu
  exact this
 ·rintro⟨k,hk,h|h⟩
  ·have e:hb 0 k=true:=h.1
   rw [hb0 k hk] at e;cases e
  ·have e:hb 0 k=true:=h.1
   rw [hb0 k hk] at e;cases e
 ·refine⟨rfl,?_⟩
  rcases (show p=0∨p=1 from by omega) with rfl|rfl <;> rfl
 ·rcases (show p=0∨p=1 from by omega) with rfl|rfl <;> exact⟨show (1:Int)≤4 by decide,show (1:Int)≤4 by decide⟩
theorem qv5 (s:Nat) (p:Nat) (hp:p<2):Fit1 (exL s).t p (exIm (s+1+1) p 1):=by
 have h:=StoT.tri_at (StoCk.tri_ck (exL s).t p (igOf (exIm (s+1+1) p 1))) (A:=some ⟨s+1+1,0,none⟩) (n:=1) (c:=1) rfl
 have h2:Tri3 (StoCk.br (exL s).t) (StoCk.bi (igOf (exIm (s+1+1) p 1))) (StoCk.bx (exL s).t p (igOf (exIm (s+1+1) p 1))) (exL s).t (p:Int) (exIm (s+1+1) p 1):=h
 exact (fit1_of h2).2 (ex_ck s (s+1+1) p 1 0 hp (.inl rfl) (by omega))
theorem ex_fit (s:Nat):Fit (exL s):=by
 refine⟨ex_right s,by show 2≤3;omega,by show 3≤10;omega,fun p hp=>?_,fun k hk=>?_⟩
 ·have hp':p<2:=hp
  rcases (show p=0∨p=1 from by omega) with rfl|rfl
  ·exact qv5 s 0 (by omega)
  ·exact qv5 s 1 (by omega)
 ·have hk':k<3:=hk
  rcases (show k=0∨k=1∨k=2 from by omega) with rfl|rfl|rfl <;> exact (by decide:1≤200)
theorem ex_len (g:Nat) (p v:Int):(closed (head (exIm g p v))).length=50:=by
 rw [ImgS.Qn,ImgP.J7];rfl
end LayK
end Go.Proofs.YtpidbddllnidhaaGreatDoor
