/- The parts that this claim uses of: Kit · Byt · Mem · DskA · DskB · DskC · DskD · DskE. Conditions: those that each law names. -/
import Derived.Test.YtkepomnbhnnliaaGreatDoorChecked
import Derived.WalkKit
import Derived.WalkSpells
import Derived.WalkLawsBesides
import Derived.WalkSmall
import Derived.OpenShut
import Derived.Deep.QuietTactic
import Derived.BigQuiet
import Derived.Maps.AppendAt
import Derived.Laws.CopyOwn
import Derived.Deep.AppendLies
import Derived.Deep.DeepCutAuto
import Derived.Lib.SlBytesConst
import Derived.Lib.Hide
import Derived.Deep.Matrix
import Derived.Deep.MidRow
import Derived.Laws.CopyRow
import Derived.Deep.RegionLaw
import Derived.RangeFuncNested
import Derived.RangeFuncLeaves
import Derived.Shelf.Abstract
import Derived.OwnWalkIn
import Derived.TacticsInMore
import Derived.LoopNIn
import Derived.LoopIn
import Derived.BigRegionIn
import Derived.StillTailTactics
import Derived.Laws.Bits64b
set_option maxRecDepth 100000
set_option maxHeartbeats 12800000
namespace Go.Proofs.YtkepomnbhnnliaaGreatDoor
theorem Hz {p:Prop} (h:p):RowKit.Hid p:=Lib.hid h
theorem sK {P:Program} {ops:Array Oper} {Q:Exit→Act→World→Prop} {md:Region.Mode} {i:Nat} {oi:Oper} {v:Value} {fuel:Nat} {listed:Array Bool} {a:Act} {w:World} (hi:ops[i]? = some oi)
 (h:wpAny P md ops Q fuel (listed.setIfInBounds i true) (a.put oi.dst v) w) (hs:Region.noSelect ops=true:=by kernel_rfl) (hf:Region.free md ops listed i=true:=by kernel_rfl) (hr:(Region.ready md ops listed).contains i=true:=by kernel_rfl)
 (hQ:∀c a w,Q (.panic c) (a.put oi.dst v) w→Q (.panic c) a w:=by exact fun _ _ _ h=>h) (hy:Yields P ops oi v a:=by exact Or.inr ⟨by rfl,rfl⟩):wpAny P md ops Q (fuel+1) listed a w:=wpAny_take hi hs hf hr hQ hy h
theorem sL {P:Program} {ops:Array Oper} {Q:Exit→Act→World→Prop} {md:Region.Mode} {i:Nat} {oi:Oper} {v:Value} {fuel:Nat} {listed:Array Bool} {a:Act} {w:World} (hi:ops[i]? = some oi)
 (h:wpAny P md ops Q fuel (listed.setIfInBounds i true) (a.put oi.dst v) w) (hs:Region.noSelect ops=true:=by kernel_rfl) (hf:Region.free md ops listed i=true:=by kernel_rfl) (hr:(Region.ready md ops listed).contains i=true:=by kernel_rfl)
 (hQ:∀c a w,Q (.panic c) (a.put oi.dst v) w→Q (.panic c) a w:=by exact fun _ _ _ h=>h) (hy:Yields P ops oi v a:=by exact Or.inl ⟨by rfl,fun w=>(by first | rfl | (go_simp;done) | (go_simp;omega))⟩):wpAny P md ops Q (fuel+1) listed a w:=wpAny_take hi hs hf hr hQ hy h
namespace Kit
open Go.RowKit
theorem ret_int {k:IntKind} {a b:Int} (h:a=b):Ending.returned (.int k a)=.returned (.int k b):=by rw [h]
theorem ret_bool {a b:Bool} (h:a=b):Ending.returned (.bool a)=.returned (.bool b):=by rw [h]
def Rd (w:World) (A:Option Addr) (n c:Nat) (xs:List Value):Prop:=
 xs.length=n∧n≤c∧c≤9223372036854775807∧(0<n→∃b o,A=some ⟨b,o,none⟩∧b<w.heap.size∧∀j u,xs[j]?=some u→w.cell? ⟨b,o+j,none⟩=some u)
section
variable {w w':World} {A:Option Addr} {n c:Nat} {xs:List Value}
theorem Rd.len (h:Rd w A n c xs):xs.length=n:=h.1
theorem Rd.le (h:Rd w A n c xs):n≤c:=h.2.1
theorem Rd.cap (h:Rd w A n c xs):c≤9223372036854775807:=h.2.2.1
theorem Rd.same (h:Rd w A n c xs) (hs:w.heap.size≤w'.heap.size) (hc:∀p:Addr,p.block<w.heap.size→w'.cell? p=w.cell? p):Rd w' A n c xs:=
 ⟨h.1,h.2.1,h.2.2.1,fun hp=>by
  obtain⟨b,o,hA,hb,hj⟩:=h.2.2.2 hp
  exact⟨b,o,hA,by omega,fun j u hu=>(hc ⟨b,o+j,none⟩ hb).trans (hj j u hu)⟩⟩
theorem Rd.below (h:Rd w A n c xs) (hb:Below w.heap.size w w'):Rd w' A n c xs:=h.same hb.size fun _ hp=>hb.cell hp
theorem Rd.alloc (h:Rd w A n c xs) (o:Obj):Rd (w.alloc o) A n c xs:=h.below ((Below.refl _ _).alloc (Nat.le_refl _) o)
theorem Rd.drewN (h:Rd w A n c xs) (k:Nat):Rd (w.drewN k) A n c xs:=h
theorem Rd.nil (w:World):Rd w none 0 0 []:=⟨by simp,by omega,by omega,fun h=>absurd h (by simp)⟩
theorem Rd.empty (w:World) (A:Option Addr) {c:Nat} (hc:c≤9223372036854775807):Rd w A 0 c []:=⟨by simp,by omega,hc,fun h=>absurd h (by simp)⟩
theorem Rd.at_ (h:Rd w A n c xs) {k:Nat} (hk:k<n):∃b o,A=some ⟨b,o,none⟩∧w.cell? ⟨b,o+k,none⟩=some (xs[k]'(by rw [h.1];exact hk)):=by
 obtain⟨b,o,hA,_,hj⟩:=h.2.2.2 (by omega)
 exact⟨b,o,hA,hj k _ (List.getElem?_eq_getElem (by rw [h.1];exact hk))⟩
theorem Rd.grown {row:Option Nat} (h:Rd w A n c xs) (hg:w.grownBy w' row) (hr:∀g,row=some g→∀b o,A=some ⟨b,o,none⟩→b≠g):Rd w' A n c xs:=
 ⟨h.1,h.2.1,h.2.2.1,fun hp=>by
  obtain⟨b,o,hA,hb,hj⟩:=h.2.2.2 hp
  refine⟨b,o,hA,by have:=hg.size;omega,fun j u hu=>?_⟩
  refine (World.cell?_of_block (hg.block b hb ?_)).trans (hj j u hu)
  intro he
  exact hr b he.symm b o hA rfl⟩
theorem Rd.own {base:Nat} {e:TypeId} (h:w.ownsRow base e 1 (.slice A n c) n xs):Rd w A n c xs:=by
 have hl:xs.length=n:=by simpa using h.1
 rcases h.2 with⟨hv,h0⟩|⟨g,cap',cur,hv,_,hh,hnc,hcm,_,_⟩
 ·simp only [Value.slice.injEq] at hv
  obtain⟨rfl,rfl,rfl⟩:=hv
  exact⟨by omega,by omega,by omega,fun h=>by omega⟩
 ·simp only [Value.slice.injEq] at hv
  obtain⟨rfl,_,rfl⟩:=hv
  unfold maxLen at hcm
  refine⟨hl,by omega,by omega,fun _=>⟨g,0,rfl,lt_of_block hh,fun j u hu=>?_⟩⟩
  have:=h.cells (g:=g) rfl j u hu
  simpa [Addr.add_lit] using this
theorem Rd.take (h:Rd w A n c xs) {k:Nat} (hk:k≤n):Rd w A k c (xs.take k):=
 ⟨by have:=h.1;simp;omega,by have:=h.2.1;omega,h.2.2.1,fun hp=>by
  obtain⟨b,o,hA,hb,hj⟩:=h.2.2.2 (by omega)
  exact⟨b,o,hA,hb,fun j u hu=>hj j u (by
   rw [List.getElem?_take] at hu
   split at hu
   ·exact hu
   ·cases hu)⟩⟩
theorem Rd.src (h:Rd w A n c xs) (hb:Below w.heap.size w w') (h0:0<xs.length):∃ad,A=some ad∧∀j v,xs[j]?=some v→w'.cell? (ad.add j)=some v:=by
 obtain⟨b,o,hA,_,hj⟩:=(h.below hb).2.2.2 (by have:=h.1;omega)
 exact⟨_,hA,fun j v hv=>by rw [Addr.add_lit];exact hj j v hv⟩
end
section
variable {P:Program} {ops:Array Oper} {rest:List Oper} {o:Oper} {a:Act} {Q:Exit→Act→World→Prop}
theorem wpList_make_room (w:World) (hg:o.guard=none) (l c:Operand) (t:TypeId) (hop:o.op=Op.makeSlice t l c)
 (e:TypeId) (i:TypeInfo) (z:Value) (bytes:Nat) (h1:P.underlying t=some (.slice e)) (h2:P.info? e=some i) (h3:i.zero=some z) (h4:i.size=1) (h5:i.bytes=bytes) (hz:z.cells = #[z])
 (kl kc:IntKind) (L C:Int) (m n:Nat) (hl:a.eval l=.int kl L) (hc:a.eval c=.int kc C) (hL:L=(m:Int)) (hC:C=(n:Int)) (hmn:m≤n) (b2:bytes*n≤281474976710656) (b3:n≤9223372036854775807)
 (hK:∀w',Hid (w'.heap[w.heap.size]?=some (.cells (List.replicate n z).toArray e (0,0)))→Below w.heap.size w w'→w'.heap.size=w.heap.size+1→
   wpList P ops Q rest (a.put o.dst (.slice (some ⟨w.heap.size,0,none⟩) m n)) w') :
 wpList P ops Q (o :: rest) a w:=by
 refine wpList_plain hg fun K hK'=>?_
 subst hL hC h5
 have hb':(i.bytes:Int)*(n:Int)≤281474976710656:=by
  have h:((i.bytes*n:Nat):Int)≤281474976710656:=by omega
  rwa [Int.natCast_mul] at h
 have hrun:=run_make (P:=P) w t e i z h1 h2 h3 kl kc m n (by omega) (by omega) hb' (by omega)
 simp only [Int.toNat_natCast,h4,Nat.mul_one,hz] at hrun
 have hm:madeCells #[z] n=(List.replicate n z).toArray:=by
  apply Array.ext'
  rw [toList_madeCells_one]
 rw [hm] at hrun
 unfold Oper.wp
 simp [execOp,hop,hl,hc,hrun,Result.andThen]
 refine hK' _ _ (hK _ ?_ ((Below.refl _ _).alloc (Nat.le_refl _) _) (by simp))
 exact heap_alloc_new w _
theorem own_of_block {w:World} {g:Nat} {cur:List Value} {e:TypeId} (h:w.heap[g]?=some (.cells cur.toArray e (0,0))) {base n:Nat} (hb:base≤g) (hn:n≤cur.length) (hm:cur.length≤9223372036854775807) :
 w.ownsRow base e 1 (.slice (some ⟨g,0,none⟩) n cur.length) n (cur.take n):=
 ⟨by simp;omega,.inr ⟨g,cur.length,cur.toArray,rfl,hb,h,hn,by unfold maxLen;omega,by simp,by simp⟩⟩
theorem run_add (w:World) (base:Nat) (t ty e:TypeId) (i:TypeInfo) (z:Value) (bytes:Nat) (ht:P.underlying t=some (.slice e)) (hi:P.info? e=some i) (hz:i.zero=some z)
 (hsize:i.size=1) (hby:i.bytes=bytes) (hzs:z.cells = #[z])
 (v:Value) (n:Nat) (xs:List Value) (hown:w.ownsRow base e 1 v n xs)
 (A:Option Addr) (m c:Nat) (news:List Value) (hr:Rd w A m c news) (h1:∀u ∈ news,u.oneCell'=true)
 (h63:n+m≤9223372036854775807) (hbytes:(n+m)*bytes≤140737488355328) (hbase:base≤w.heap.size) :
 ∃v' w',(Builtin.append_ #[t,t] ty #[v,.slice A m c]).run P w=.ok v' w'∧w'.ownsRow base e 1 v' (n+m) (xs++news)∧w.grownBy w' v.ownBlock∧
  (v'.ownBlock=v.ownBlock∨v'.ownBlock=some w.heap.size):=by
 rcases A with _|ad
 ·have h0:m=0:=by
   rcases Nat.eq_zero_or_pos m with h|h
   ·exact h
   ·obtain⟨b,o,hA,_⟩:=hr.2.2.2 h
    cases hA
  subst h0
  have h0:news=[]:=List.eq_nil_of_length_eq_zero hr.1
  subst h0
  have hrun:(Builtin.append_ #[t,t] ty #[v,.slice none 0 c]).run P w=.ok v w:=by
   rcases hown.2 with⟨rfl,_⟩|⟨g,cap,cur,rfl,_,_,hnc,_⟩
   ·simp [Builtin.append_,run_underlying ht,sizeOf,typeInfo,hi,Builtin.lenOf,Builtin.firstCells]
   ·simp [Builtin.append_,run_underlying ht,sizeOf,typeInfo,hi,Builtin.lenOf,Builtin.firstCells,hnc,storeCells]
  exact⟨v,w,hrun,by simpa using hown,World.grownBy.refl w _,.inl rfl⟩
 ·have hcells:∀j u,news[j]?=some u→w.cell? (ad.add j)=some u:=by
   intro j u hu
   have hp:0<news.length:=by have:=(List.getElem?_eq_some_iff.1 hu).1;omega
   obtain⟨b,o,hA,_,hc⟩:=hr.2.2.2 (by have:=hr.1;omega)
   injection hA with hA
   subst hA
   rw [Addr.add_lit]
   exact hc j u hu
  obtain⟨v',w',hrun,h2,h3,_,h5⟩:=run_append_own_at (P:=P) w base t ty e i z 1 bytes ht hi hz hsize hby (by rw [hzs];rfl) (by omega) v n xs hown ad m c news (by rw [hr.1];simp) hcells h1 (by unfold maxLen;omega) hbytes hbase
  exact⟨v',w',hrun,h2,h3,h5⟩
theorem wp_add {K:Act→World→Prop} (w:World) (s x:Operand) (t:TypeId)
 (ho:o.op=.call { callee:=.builtin .append,args:=#[s,x],argTypes:=#[t,t] })
 (base:Nat) (e:TypeId) (i:TypeInfo) (z:Value) (bytes:Nat) (ht:P.underlying t=some (.slice e)) (hi:P.info? e=some i) (hz:i.zero=some z)
 (hsize:i.size=1) (hby:i.bytes=bytes) (hzs:z.cells = #[z])
 (v:Value) (n:Nat) (xs:List Value) (hs:a.eval s=v) (hown:w.ownsRow base e 1 v n xs)
 (A:Option Addr) (m c:Nat) (news:List Value) (hx:a.eval x=.slice A m c) (hr:Rd w A m c news) (h1:∀u ∈ news,u.oneCell'=true)
 (h63:n+m≤9223372036854775807) (hbytes:(n+m)*bytes≤140737488355328) (hbase:base≤w.heap.size)
 (h:∀v' w',w'.ownsRow base e 1 v' (n+m) (xs++news)→w.grownBy w' v.ownBlock→(v'.ownBlock=v.ownBlock∨v'.ownBlock=some w.heap.size)→K (a.put o.dst v') w'):o.wp P a w K Q:=by
 obtain⟨v',w',hrun,h2,h3,h4⟩:=run_add (P:=P) w base t o.type e i z bytes ht hi hz hsize hby hzs v n xs hown A m c news hr h1 h63 hbytes hbase
 unfold Oper.wp execOp
 simp only [ho,resolve,invoke,builtin,Sem.run_bind,Sem.run_pure,Result.andThen_ok,List.map_toArray,List.map_cons,List.map_nil,hs,hx,hrun]
 exact h v' w' h2 h3 h4
theorem wpList_add (w:World) (hgd:o.guard=none) (s x:Operand) (t:TypeId)
 (ho:o.op=.call { callee:=.builtin .append,args:=#[s,x],argTypes:=#[t,t] })
 (base:Nat) (e:TypeId) (i:TypeInfo) (z:Value) (bytes:Nat) (ht:P.underlying t=some (.slice e)) (hi:P.info? e=some i) (hz:i.zero=some z)
 (hsize:i.size=1) (hby:i.bytes=bytes) (hzs:z.cells = #[z])
 (v:Value) (n:Nat) (xs:List Value) (hs:a.eval s=v) (hown:w.ownsRow base e 1 v n xs)
 (A:Option Addr) (m c:Nat) (news:List Value) (hx:a.eval x=.slice A m c) (hr:Rd w A m c news) (h1:∀u ∈ news,u.oneCell'=true)
 (h63:n+m≤9223372036854775807) (hbytes:(n+m)*bytes≤140737488355328) (hbase:base≤w.heap.size)
 (h:∀A' n' c' w',Hid (n'=n+m)→w'.ownsRow base e 1 (.slice A' n' c') n' (xs++news)→w.grownBy w' v.ownBlock→((Value.slice A' n' c').ownBlock=v.ownBlock∨(Value.slice A' n' c').ownBlock=some w.heap.size)→wpList P ops Q rest (a.put o.dst (.slice A' n' c')) w'):wpList P ops Q (o :: rest) a w:=
 wpList_plain hgd fun _ hK=>wp_add w s x t ho base e i z bytes ht hi hz hsize hby hzs v n xs hs hown A m c news hx hr h1 h63 hbytes hbase fun v' w' h2 h3 h4=>by
  have h5:=h2
  rcases h5.2 with⟨rfl,h0⟩|⟨g,cap,cur,rfl,_⟩
  ·exact hK _ _ (h none 0 0 w' h0.symm (by rw [h0] at h2;exact h2) h3 h4)
  ·exact hK _ _ (h _ _ _ w' rfl h2 h3 h4)
end
theorem below_add {w0 w w':World} {v:Value} {base:Nat} {e:TypeId} {n:Nat} {xs:List Value} (hb:Below w0.heap.size w0 w) (hown:w.ownsRow base e 1 v n xs) (hbase:w0.heap.size≤base) (hg:w.grownBy w' v.ownBlock):Below w0.heap.size w0 w':=
 hb.grown hg hb.size fun k hk=>by have:=hown.lt k hk;omega
theorem own_below {w w':World} {v:Value} {base:Nat} {e:TypeId} {n:Nat} {xs:List Value} (h:w.ownsRow base e 1 v n xs) (hb:Below w.heap.size w w'):w'.ownsRow base e 1 v n xs:=
 h.kept (row:=none) ⟨hb.os,hb.tape,hb.output,hb.size,fun k hk _=>hb.block k hk⟩ (by
  rcases hv:v.ownBlock with _|g
  ·exact .inl rfl
  ·exact .inr (by simp))
theorem emptied (w:World) (e:TypeId):(w.alloc (.cells #[] e)).ownsRow w.heap.size e 1 (.slice (some ⟨w.heap.size,0,none⟩) 0 0) 0 []:=by
 have h:=own_of_block (w:=w.alloc (.cells #[] e)) (g:=w.heap.size) (cur:=[]) (e:=e) (base:=w.heap.size) (n:=0) (heap_alloc_new w _) (Nat.le_refl _) (by simp) (by simp)
 simpa using h
theorem size_alloc (w:World) (o:Obj):w.heap.size≤(w.alloc o).heap.size:=((Below.refl w.heap.size w).alloc (Nat.le_refl _) o).size
theorem new_one (w:World) (v:Value) (t:TypeId):∀j u,[v][j]?=some u→(w.alloc (.cells #[v] t)).cell? ((⟨w.heap.size,0,none⟩:Addr).add j)=some u:=by
 intro j u hj
 match j,hj with
 | 0,hj=>
   simp at hj
   subst hj
   rw [Addr.add_lit,cell_of_row _ _ _ _ _ _ (heap_alloc_new w _)]
   rfl
end Kit
namespace Byt
open Go.RowKit Kit
def u8n (xs:List Nat):List Value:=xs.map fun n:Nat=>Value.int .u8 (n:Int)
theorem u8n_one (xs:List Nat):∀u ∈ u8n xs,u.oneCell'=true:=by
 intro u hu
 simp only [u8n,List.mem_map] at hu
 obtain⟨n,_,rfl⟩:=hu
 rfl
theorem u8n_len (xs:List Nat):(u8n xs).length=xs.length:=List.length_map ..
theorem u8n_app (xs ys:List Nat):u8n xs++u8n ys=u8n (xs++ys):=by simp [u8n]
theorem Rd.nats {w:World} {A:Option Addr} {n c:Nat} {xs:List Nat} (h:Rd w A n c (u8n xs)):xs.length=n:=by have:=h.len;rwa [u8n_len] at this
theorem Rd.nat {w:World} {A:Option Addr} {n c:Nat} {xs:List Nat} (h:Rd w A n c (u8n xs)) {k:Nat} (hk:k<xs.length):∃b o,A=some ⟨b,o,none⟩∧w.cell? ⟨b,o+k,none⟩=some (.int .u8 (xs[k]:Nat)):=by
 obtain⟨b,o,hA,hc⟩:=Rd.at_ h (k:=k) (by have:=Rd.nats h;omega)
 exact⟨b,o,hA,by simpa [u8n] using hc⟩
theorem take_snoc {xs:List Nat} {k:Nat} (h:k<xs.length):xs.take (k+1)=xs.take k++[xs[k]]:=List.take_succ_eq_append_getElem h
structure Sl where
 A:Option Addr
 n:Nat
 c:Nat
 xs:List Nat
def Sl.val (s:Sl):Value:=.slice s.A s.n s.c
def cat (R:List Sl):List Nat:=R.flatMap Sl.xs
end Byt
namespace Mem
open Go.RowKit Kit Byt
theorem lt_some {w:World} {G:Nat} {o:Obj} (hg:w.heap[G]?=some o):G<w.heap.size:=by
 rcases Nat.lt_or_ge G w.heap.size with h|h
 ·exact h
 ·rw [Array.getElem?_eq_none h] at hg;cases hg
theorem alloc_old {w:World} {o o':Obj} {G:Nat} (h:w.heap[G]?=some o'):(w.alloc o).heap[G]?=some o':=(Below.heap_alloc w o G (lt_some h)).trans h
theorem block_below {w w':World} {G:Nat} {o:Obj} (hg:w.heap[G]?=some o) (hb:Below w.heap.size w w'):w'.heap[G]?=some o:=by
 exact (hb.block G (lt_some hg)).trans hg
theorem setL {w:World} {G:Nat} {t:TypeId} {C:List Value} (hg:w.heap[G]?=some (.cells C.toArray t (0,0))) (k:Nat) (v:Value):(w.setCell ⟨G,k,none⟩ v).heap[G]?=some (.cells (C.set k v).toArray t (0,0)):=by
 rw [heap_setCell_same w G k _ _ _ hg,List.setIfInBounds_toArray]
def Blk (w:World) (g:Nat) (t:TypeId) (xs:List Value):Prop:=w.heap[g]?=some (.cells xs.toArray t (0,0))
section
variable {w w':World} {g:Nat} {t:TypeId} {xs:List Value}
theorem Blk.cell (h:Blk w g t xs) {i:Nat} {v:Value} (hi:xs[i]?=some v):w.cell? ⟨g,i,none⟩=some v:=by
 rw [cell_of_row w g i _ _ _ h]
 simpa using hi
theorem Blk.byte {bs:List Nat} (h:Blk w g t (u8n bs)) {i:Nat} (hi:i<bs.length):w.cell? ⟨g,i,none⟩=some (.int .u8 (bs.getD i 0:Nat)):=
 h.cell (by simp [u8n,hi])
theorem Blk.frozen (h:Blk w g t xs) (i:Nat):w.frozen? ⟨g,i,none⟩=false:=frozen_of_row w g i _ _ h
theorem Blk.set (h:Blk w g t xs) (i:Nat) (v:Value):Blk (w.setCell ⟨g,i,none⟩ v) g t (xs.set i v):=setL h i v
theorem Blk.below (h:Blk w g t xs) (hb:Below w.heap.size w w'):Blk w' g t xs:=block_below h hb
theorem Blk.lt (h:Blk w g t xs):g<w.heap.size:=lt_some h
theorem Blk.alloc (h:Blk w g t xs) (o:Obj):Blk (w.alloc o) g t xs:=alloc_old h
theorem Blk.far (h:Blk w g t xs) {p:Addr} (hp:g≠p.block) (u:Value):Blk (w.setCell p u) g t xs:=(Below.heap_setCell w p u g hp).trans h
theorem Blk.new (w:World) (t:TypeId) (xs:List Value):Blk (w.alloc (.cells xs.toArray t)) w.heap.size t xs:=heap_alloc_new w _
end
def Only (g:Nat) (w w':World):Prop:=w.grownBy w' (some g)∧w'.heap.size=w.heap.size
theorem Only.below {g B:Nat} {w0 w w':World} (h:Only g w w') (hb:Below B w0 w) (hg:B≤g) (hs:B≤w.heap.size):Below B w0 w':=hb.grown h.1 hs fun k hk=>by injection hk with hk;omega
theorem Only.blk {g k:Nat} {w w':World} {t:TypeId} {xs:List Value} (h:Only g w w') (hB:Blk w k t xs) (hne:k≠g):Blk w' k t xs:=
 (h.1.block k hB.lt (by simpa using hne)).trans hB
theorem Only.refl (g:Nat) (w:World):Only g w w:=⟨World.grownBy.refl w _,rfl⟩
theorem Only.row (w:World) (g:Nat) (cs:Array Value):Only g w (w.setRow g cs):=
 ⟨⟨rfl,rfl,rfl,by simp [World.setRow],fun i _ hne=>setRow_other w g i cs (by simpa using hne)⟩,by simp [World.setRow]⟩
theorem Only.of_drew {g:Nat} {w w':World} (h:Only g w.drew w'):Only g w w':=⟨⟨h.1.os,h.1.tape,h.1.output,h.1.size,h.1.block⟩,h.2⟩
theorem Only.trans {g:Nat} {a b c:World} (h:Only g a b) (k:Only g b c):Only g a c:=
 ⟨⟨k.1.os.trans h.1.os,k.1.tape.trans h.1.tape,k.1.output.trans h.1.output,Nat.le_trans h.1.size k.1.size,fun i hi hne=>(k.1.block i (by rw [h.2];exact hi) hne).trans (h.1.block i hi hne)⟩,k.2.trans h.2⟩
theorem Only.set (w:World) (g i:Nat) (v:Value):Only g w (w.setCell ⟨g,i,none⟩ v):=
 ⟨⟨rfl,rfl,rfl,by simp [World.setCell],fun k _ hne=>Below.heap_setCell w _ v k (by simpa using hne)⟩,by simp [World.setCell]⟩
section
variable {P:Program} {ops:Array Oper} {rest:List Oper} {o:Oper} {a:Act} {w:World} {Q:Exit→Act→World→Prop}
theorem wpList_load_blk (hgd:o.guard=none) (ty:TypeId) (x:Operand) (ho:o.op=.load ty x) (g:Nat) (hx:a.eval x=.pointer (some ⟨g,0,none⟩))
 {t:TypeId} {xs:List Value} {d:TypeDesc} (hB:Blk w g t xs) (hu:P.underlying ty=some d) (hd:(match d with | .struct _ | .array _ _=>true|_=>false)=true) (hi:(P.info? ty).map (·.size)=some xs.length)
 (h:wpList P ops Q rest (a.put o.dst (.agg xs.toArray)) w):wpList P ops Q (o :: rest) a w:=
 wpList_load_row hgd ty x ho g hx t xs.toArray (0,0) d hB hu hd (by simpa using hi) h
theorem Blk.range {g off:Nat} {t:TypeId} {xs cs:List Value} (hB:Blk w g t xs) (hc:(xs.drop off).take cs.length=cs):w.rangeAt g off cs:=fun j v hv=>by
 refine hB.cell ?_
 have hj:=(List.getElem?_eq_some_iff.1 hv).1
 rw [←hv,←hc,List.getElem?_take,if_pos hj,List.getElem?_drop]
theorem wpList_load_part (hgd:o.guard=none) (ty:TypeId) (x:Operand) (ho:o.op=.load ty x) (g off:Nat) (hx:a.eval x=.pointer (some ⟨g,off,none⟩))
 {t:TypeId} {xs:List Value} (cs:List Value) {d:TypeDesc} (hB:Blk w g t xs) (hc:(xs.drop off).take cs.length=cs) (hu:P.underlying ty=some d) (hd:d.isRow=true) (hi:(P.info? ty).map (·.size)=some cs.length)
 (h:wpList P ops Q rest (a.put o.dst (.agg cs.toArray)) w):wpList P ops Q (o :: rest) a w:=
 wpList_load_mid hgd ty x ho g off hx cs d (hB.range hc) hu hd hi h
theorem run_store_part (w:World) (ty:TypeId) (g off:Nat) {t:TypeId} {xs:List Value} (cs:List Value) (hB:Blk w g t xs) (hfit:off+cs.length≤xs.length) (hi:(P.info? ty).map (·.size)=some cs.length) (h1:∀v ∈ cs,v.oneCell'=true) :
 (storeVar ty ⟨g,off,none⟩ (.agg cs.toArray)).run P w=.ok () (w.setRow g (splice xs off cs).toArray):=by
 have hst:=run_storeCells_at P g off t cs 0 xs.toArray w hB (by simpa using hfit) h1
 cases hq:P.info? ty with
 | none=>simp [hq] at hi
 | some i=>
   have hs:i.size=cs.length:=by simpa [hq] using hi
   simp only [Nat.add_zero] at hst
   simp [storeVar,sizeOf,typeInfo,hq,Value.cells,hs,hst,splice]
theorem wpList_store_part (hgd:o.guard=none) (ty:TypeId) (x y:Operand) (ho:o.op=.store ty x y) (g off:Nat) (hx:a.eval x=.pointer (some ⟨g,off,none⟩))
 {t:TypeId} {xs:List Value} (cs:List Value) (hy:a.eval y=.agg cs.toArray) (hB:Blk w g t xs) (hfit:off+cs.length≤xs.length) (hi:(P.info? ty).map (·.size)=some cs.length) (h1:∀v ∈ cs,v.oneCell'=true)
 (h:∀w',Hid (Blk w' g t (splice xs off cs))→Hid (Only g w w')→wpList P ops Q rest (a.put o.dst undef) w'):wpList P ops Q (o :: rest) a w:=by
 refine wpList_plain hgd fun K hK=>?_
 unfold Oper.wp execOp
 simp only [ho,hx,hy,Instr.storeAt,Instr.sureAddr,Sem.run_bind,Sem.run_pure,Result.andThen_ok,run_store_part w ty g off cs hB hfit hi h1]
 exact hK _ _ (h _ (Hz (setRow_heap w g _ _ t _ hB)) (Hz (Only.row w g _)))
theorem wp_store_part {K:Act→World→Prop} (ty:TypeId) (x y:Operand) (ho:o.op=.store ty x y) (g off:Nat) (hx:a.eval x=.pointer (some ⟨g,off,none⟩))
 {t:TypeId} {xs:List Value} (cs:List Value) (hy:a.eval y=.agg cs.toArray) (hB:Blk w g t xs) (hfit:off+cs.length≤xs.length) (hi:(P.info? ty).map (·.size)=some cs.length) (h1:∀v ∈ cs,v.oneCell'=true)
 (h:∀w',Hid (Blk w' g t (splice xs off cs))→Hid (Only g w w')→K (a.put o.dst undef) w'):o.wp P a w K Q:=by
 unfold Oper.wp execOp
 simp only [ho,hx,hy,Instr.storeAt,Instr.sureAddr,Sem.run_bind,Sem.run_pure,Result.andThen_ok,run_store_part w ty g off cs hB hfit hi h1]
 exact h _ (Hz (setRow_heap w g _ _ t _ hB)) (Hz (Only.row w g _))
theorem splice_all {α:Type} {xs cs:List α} (h:xs.length=cs.length):splice xs 0 cs=cs:=by
 simp [splice,h▸List.drop_length]
theorem wpList_store_blk (hgd:o.guard=none) (ty:TypeId) (x y:Operand) (ho:o.op=.store ty x y) (g:Nat) (hx:a.eval x=.pointer (some ⟨g,0,none⟩))
 {t:TypeId} {xs:List Value} (cs:List Value) (hy:a.eval y=.agg cs.toArray) (hB:Blk w g t xs) (hfit:xs.length=cs.length) (hi:(P.info? ty).map (·.size)=some cs.length) (h1:∀v ∈ cs,v.oneCell'=true)
 (h:∀w',Hid (Blk w' g t cs)→Hid (Only g w w')→wpList P ops Q rest (a.put o.dst undef) w'):wpList P ops Q (o :: rest) a w:=
 wpList_store_part hgd ty x y ho g 0 hx cs hy hB (by omega) hi h1 (by rw [splice_all hfit];exact h)
theorem run_index_one {t e:TypeId} {n k:Nat} {xs:List Value} {v:Value} (ht:P.underlying t=some (.array n e)) (hd:∃d,P.underlying e=some (.int d)) (hi:(P.info? e).map (·.size)=some 1) (hk:k<n) (hv:xs[k]?=some v) (w:World) :
 (Instr.index t (.agg xs.toArray) (.int .i64 (k:Int))).run P w=.ok v w:=by
 obtain⟨d,hd⟩:=hd
 cases hq:P.info? e with
 | none=>simp [hq] at hi
 | some i=>
   have hs:i.size=1:=by simpa [hq] using hi
   simp [Instr.index,run_underlying ht,asIntOf,sizeOf,typeInfo,hq,hs,hk,part,isAgg,run_underlying hd,hv]
theorem wpList_copy_part (hgd:o.guard=none) (d s:Operand) (dT sT:TypeId) (ho:o.op=.call { callee:=.builtin .copy,args:=#[d,s],argTypes:=#[dT,sT] }) (elem:TypeId) (hu:P.underlying dT=some (.slice elem)) (hsz:(P.info? elem).map (·.size)=some 1)
 (g off dLen dCap:Nat) (hd:a.eval d=.slice (some ⟨g,off,none⟩) dLen dCap) {A:Option Addr} {n c:Nat} {ys:List Value} (hs:a.eval s=.slice A n c) (hR:Rd w A n c ys) (h1:∀v ∈ ys,v.oneCell'=true)
 {t:TypeId} {xs:List Value} (hB:Blk w g t xs) (hfit:off+dLen≤xs.length)
 (h:∀w' m,Hid (m=min n dLen)→Hid (Blk w' g t (splice xs off (ys.take m)))→Hid (Only g w w')→wpList P ops Q rest (a.put o.dst (.int .i64 (m:Nat))) w'):wpList P ops Q (o :: rest) a w:=by
 have hl:=hR.len
 have hcl:(ys.take (min n dLen)).length=min n dLen:=by simp;omega
 by_cases h0:min n dLen=0
 ·refine wpList_copy_nothing hgd d s dT sT ho elem hu hsz (some ⟨g,off,none⟩) A dLen dCap n c hd hs h0 ?_
  exact h w 0 (Hz h0.symm) (Hz (by simpa [splice] using hB)) (Hz (Only.refl g w))
 ·obtain⟨b,oo,hA,_,hj⟩:=hR.2.2.2 (by omega)
  subst hA
  refine wpList_copy_own hgd d s dT sT ho elem hu hsz g off dLen dCap ⟨b,oo,none⟩ n c hd hs xs.toArray t hB (ys.take (min n dLen)) hcl (fun j v hv=>?_) (by rw [hcl];simp;omega) (fun v hv=>h1 v (List.mem_of_mem_take hv)) ?_
  ·rw [Addr.add_lit]
   rw [List.getElem?_take] at hv
   split at hv
   ·exact hj j v hv
   ·cases hv
  ·have h2:=h (w.setRow g (splice xs off (ys.take (min n dLen))).toArray) (min n dLen) (Hz rfl) (Hz (setRow_heap w g _ _ t _ hB)) (Hz (Only.row w g _))
   rw [hcl]
   simpa [splice,goInt,hcl] using h2
end
structure Keep (F:Nat→Prop) (w w':World):Prop where
 os:w'.os=w.os
 tape:w'.tape=w.tape
 output:w'.output=w.output
 size:w.heap.size≤w'.heap.size
 block:∀k,k<w.heap.size→¬F k→w'.heap[k]?=w.heap[k]?
section
variable {F G:Nat→Prop} {a b c w w':World} {B g:Nat}
theorem Keep.refl (F:Nat→Prop) (w:World):Keep F w w:=⟨rfl,rfl,rfl,Nat.le_refl _,fun _ _ _=>rfl⟩
theorem Keep.trans (h:Keep F a b) (k:Keep G b c) (hf:∀k,G k→F k∨a.heap.size≤k):Keep F a c:=
 ⟨k.os.trans h.os,k.tape.trans h.tape,k.output.trans h.output,Nat.le_trans h.size k.size,fun i hi hn=>(k.block i (Nat.lt_of_lt_of_le hi h.size) fun hg=>by
  rcases hf i hg with h1|h1
  ·exact hn h1
  ·omega).trans (h.block i hi hn)⟩
theorem Keep.of_below (h:Below w.heap.size w w'):Keep F w w':=⟨h.os,h.tape,h.output,h.size,fun i hi _=>h.block i hi⟩
theorem Keep.below (h:Keep F w w') (hF:∀k,F k→B≤k) (hs:B≤w.heap.size):Below B w w':=
 ⟨h.os,h.tape,h.output,h.size,fun i hi=>h.block i (by omega) fun hf=>by have:=hF i hf;omega⟩
theorem Keep.grown {row:Option Nat} (h:w.grownBy w' row) (hr:∀k,row=some k→F k):Keep F w w':=
 ⟨h.os,h.tape,h.output,h.size,fun i hi hn=>h.block i hi fun he=>hn (hr i he.symm)⟩
theorem Keep.only (h:Only g w w') (hg:F g):Keep F w w':=Keep.grown h.1 fun k hk=>by injection hk with hk;exact hk▸hg
theorem Keep.drew (h:Keep F w w'):Keep F w w'.drew:=⟨h.os,h.tape,h.output,h.size,h.block⟩
theorem Keep.set (w:World) (i:Nat) (v:Value) (hg:F g):Keep F w (w.setCell ⟨g,i,none⟩ v):=Keep.only (Only.set w g i v) hg
theorem Keep.mono (h:Keep F w w') (hf:∀k,k<w.heap.size→F k→G k):Keep G w w':=⟨h.os,h.tape,h.output,h.size,fun i hi hn=>h.block i hi fun hF=>hn (hf i hi hF)⟩
theorem Keep.blk {t:TypeId} {xs:List Value} (h:Keep F w w') (hB:Blk w g t xs) (hg : ¬F g):Blk w' g t xs:=(h.block g hB.lt hg).trans hB
theorem Keep.rd {A:Option Addr} {n c:Nat} {xs:List Value} (h:Keep F w w') (hR:Rd w A n c xs) (hA:0<n→∀b o,A=some ⟨b,o,none⟩→¬F b):Rd w' A n c xs:=
 ⟨hR.1,hR.2.1,hR.2.2.1,fun hp=>by
  obtain⟨b,o,he,hb,hj⟩:=hR.2.2.2 hp
  refine⟨b,o,he,Nat.lt_of_lt_of_le hb h.size,fun j u hu=>?_⟩
  exact (World.cell?_of_block (h.block b hb (hA hp b o he))).trans (hj j u hu)⟩
theorem Keep.own {base:Nat} {e:TypeId} {size n:Nat} {v:Value} {xs:List Value} (h:Keep F w w') (ho:w.ownsRow base e size v n xs) (hv:∀k,v.ownBlock=some k→¬F k):w'.ownsRow base e size v n xs:=by
 refine⟨ho.1,?_⟩
 rcases ho.2 with hn|⟨g,cap,cur,rfl,hb,hgg,rest⟩
 ·exact .inl hn
 ·exact .inr ⟨g,cap,cur,rfl,hb,(h.block g (lt_some hgg) (hv g rfl)).trans hgg,rest⟩
end
theorem rep_one {zs:List Value} (h1:∀u ∈ zs,u.oneCell'=true) (n:Nat):∀u ∈ (Builtin.zeroCells zs.toArray n).toList,u.oneCell'=true:=by
 intro u hu
 simp only [Builtin.zeroCells,List.mem_map,Array.toList_map,Array.toList_range] at hu
 obtain⟨i,hi,rfl⟩:=hu
 simp only [List.size_toArray] at hi
 have hz:0<zs.length:=by
  rcases Nat.eq_zero_or_pos zs.length with h|h
  ·rw [h] at hi;simp at hi
  ·exact h
 have hm:=Nat.mod_lt i hz
 refine h1 _ ?_
 simp [hm]
section
variable {P:Program} {ops:Array Oper} {rest:List Oper} {o:Oper} {a:Act} {w:World} {Q:Exit→Act→World→Prop}
theorem run_clear_own (w:World) (t e ty:TypeId) (z:Value) {zs:List Value} (ht:P.underlying t=some (.slice e)) (hv:∀w,(zeroValue e).run P w=.ok z w) (hz:z.cells=zs.toArray) (h1:∀u ∈ zs,u.oneCell'=true)
 {base n c:Nat} {A:Option Addr} {xs:List Value} (ho:w.ownsRow base e zs.length (.slice A n c) n xs) :
 ∃w' ys,(Builtin.clear_ #[t] ty #[.slice A n c]).run P w=.ok (.tuple #[]) w'∧w'.ownsRow base e zs.length (.slice A n c) n ys∧w.grownBy w' (Value.slice A n c).ownBlock∧w'.heap.size=w.heap.size:=by
 rcases ho.2 with⟨hv0,h0⟩|⟨g,cap',cur,hv0,hb,hh,hnc,hcm,hcs,hx⟩
 ·simp only [Value.slice.injEq] at hv0
  obtain⟨rfl,rfl,rfl⟩:=hv0
  exact⟨w,xs,by simp [Builtin.clear_,run_underlying ht],ho,World.grownBy.refl w _,rfl⟩
 ·simp only [Value.slice.injEq] at hv0
  obtain⟨rfl,_,rfl⟩:=hv0
  rcases Nat.eq_zero_or_pos n with h0|h0
  ·subst h0
   exact⟨w,xs,by simp [Builtin.clear_,run_underlying ht],ho,World.grownBy.refl w _,rfl⟩
  ·have hzl:(Builtin.zeroCells zs.toArray n).toList.length=n*zs.length:=by simp [Builtin.zeroCells]
   have hle:n*zs.length≤c*zs.length:=Nat.mul_le_mul_right _ hnc
   have hst:=run_storeCells_at P g 0 e (Builtin.zeroCells zs.toArray n).toList 0 cur w hh (by rw [hzl];omega) (rep_one h1 n)
   obtain⟨ZC,hZC⟩:∃ZC,ZC=(Builtin.zeroCells zs.toArray n).toList:=⟨_,rfl⟩
   rw [←hZC] at hst hzl
   simp only [Nat.zero_add,List.take_zero,List.nil_append] at hst
   refine⟨w.setRow g (ZC++cur.toList.drop ZC.length).toArray,ZC,?_,⟨hzl,.inr ⟨g,c,_,rfl,hb,setRow_heap w g _ _ e _ hh,hnc,hcm,?_,?_⟩⟩,(Only.row w g _).1,(Only.row w g _).2⟩
   ·obtain⟨m,rfl⟩:∃m,n=m+1:=⟨n-1,by omega⟩
    simp [Builtin.clear_,run_underlying ht,hv,hz,←hZC,hst]
   ·simp [hzl,hcs];omega
   ·rw [←hzl];simp
theorem wpList_clear_own (hgd:o.guard=none) (x:Operand) (t e:TypeId) (ho:o.op=.call { callee:=.builtin .clear,args:=#[x],argTypes:=#[t] }) (z:Value) {zs:List Value} (ht:P.underlying t=some (.slice e)) (hv:∀w,(zeroValue e).run P w=.ok z w) (hz:z.cells=zs.toArray) (h1:∀u ∈ zs,u.oneCell'=true)
 {base n c:Nat} {A:Option Addr} {xs:List Value} (hx:a.eval x=.slice A n c) {size:Nat} (hs:size=zs.length) (hown:w.ownsRow base e size (.slice A n c) n xs)
 (h:∀w' ys,Hid (w'.ownsRow base e size (.slice A n c) n ys)→w.grownBy w' (Value.slice A n c).ownBlock→Hid (w'.heap.size=w.heap.size)→wpList P ops Q rest (a.put o.dst (.tuple #[])) w'):wpList P ops Q (o :: rest) a w:=by
 subst hs
 refine wpList_plain hgd fun K hK=>?_
 obtain⟨w',ys,hrun,h2,h3,h4⟩:=run_clear_own (P:=P) w t e o.type z ht hv hz h1 hown
 unfold Oper.wp execOp
 simp only [ho,resolve,invoke,builtin,Sem.run_bind,Sem.run_pure,Result.andThen_ok,List.map_toArray,List.map_cons,List.map_nil,hx,hrun]
 exact hK _ _ (h w' ys h2 h3 h4)
theorem wp_append_at {K:Act→World→Prop} (s x:Operand) (t:TypeId)
 (ho:o.op=.call { callee:=.builtin .append,args:=#[s,x],argTypes:=#[t,t] })
 (base:Nat) (e:TypeId) (i:TypeInfo) (z:Value) (size bytes:Nat) (ht:P.underlying t=some (.slice e)) (hi:P.info? e=some i) (hz:i.zero=some z)
 (hsize:i.size=size) (hby:i.bytes=bytes) (hzs:z.cells.size=size) (hsz:0<size)
 (v:Value) (n:Nat) (xs:List Value) (hs:a.eval s=v) (hown:w.ownsRow base e size v n xs)
 (ad:Addr) (m c:Nat) (news:List Value) (hx:a.eval x=.slice (some ad) m c) (hl:news.length=m*size) (hnews:∀j u,news[j]?=some u→w.cell? (ad.add j)=some u) (h1:∀u ∈ news,u.oneCell'=true)
 (h63:n+m≤maxLen) (hbytes:(n+m)*bytes≤140737488355328) (hbase:base≤w.heap.size)
 (h:∀A' n' c' w',Hid (n'=n+m)→Hid (w'.ownsRow base e size (.slice A' n' c') n' (xs++news))→w.grownBy w' v.ownBlock→Hid ((Value.slice A' n' c').ownBlock=v.ownBlock∨(Value.slice A' n' c').ownBlock=some w.heap.size)→K (a.put o.dst (.slice A' n' c')) w'):o.wp P a w K Q:=by
 obtain⟨v',w',hrun,h2,h3,_,h5⟩:=run_append_own_at (P:=P) (w:=w) base t o.type e i z size bytes ht hi hz hsize hby hzs hsz v n xs hown ad m c news hl hnews h1 h63 hbytes hbase
 unfold Oper.wp execOp
 simp only [ho,resolve,invoke,builtin,Sem.run_bind,Sem.run_pure,Result.andThen_ok,List.map_toArray,List.map_cons,List.map_nil,hs,hx,hrun]
 have h6:=h2
 rcases h6.2 with⟨rfl,h0⟩|⟨g,cap,cur,rfl,_⟩
 ·exact h none 0 0 w' h0.symm (by rw [h0] at h2;exact h2) h3 h5
 ·exact h _ _ _ w' rfl h2 h3 h5
end
end Mem
namespace DskA
open Go.RowKit Kit Byt Mem
structure St where
 S:List (List Nat)
 L:List (Nat×List Nat)
 fuse:Int
 down:Bool
structure St.ok (s:St):Prop where
 pos:1≤s.S.length
 most:s.S.length≤128
 sec:∀x ∈ s.S,x.length=64
 wait:∀p ∈ s.L,p.1<s.S.length∧p.2.length=64
 lo : -9223372036854775808≤s.fuse
 hi:s.fuse≤9223372036854775807
structure Wr where
 at_:Nat
 b:Nat
 c:Nat
 bs:List Nat
def Wr.cells (e:Wr):List Value:=[.int .i64 (e.at_:Int),.slice (some ⟨e.b,0,none⟩) 64 e.c]
def wc (E:List Wr):List Value:=E.flatMap Wr.cells
theorem wc_len (E:List Wr):(wc E).length=E.length*2:=by
 induction E with
 | nil=>rfl
 | cons e E ih=>simp only [wc,List.flatMap_cons,List.length_append] at ih ⊢;rw [ih];simp [Wr.cells];omega
theorem wc_app (E E':List Wr):wc (E++E')=wc E++wc E':=by simp [wc]
theorem wc_at {E:List Wr} {k:Nat} (h:k<E.length):(wc E)[2*k]?=some (.int .i64 (E[k].at_:Int))∧(wc E)[2*k+1]?=some (.slice (some ⟨E[k].b,0,none⟩) 64 E[k].c):=by
 induction E generalizing k with
 | nil=>simp at h
 | cons e E ih=>
   have hc:wc (e :: E)=.int .i64 (e.at_:Int) :: .slice (some ⟨e.b,0,none⟩) 64 e.c :: wc E:=rfl
   rw [hc]
   cases k with
   | zero=>exact⟨rfl,rfl⟩
   | succ k=>
     have:=ih (k:=k) (by simpa using h)
     rw [show 2*(k+1)=2*k+1+1 by omega]
     simpa using this
def hd (gl N:Nat) (A:Option Addr) (n c:Nat) (f:Int) (d:Bool):List Value:=[.slice (some ⟨gl,0,none⟩) N N,.slice A n c,.int .i64 f,.bool d]
structure At (w:World) (F:Nat→Prop) (g:Nat) (s:St) (gl:Nat) (A:Option Addr) (n c:Nat) (E:List Wr):Prop where
 head:Blk w g 105 (hd gl s.S.length A n c s.fuse s.down)
 laid:Blk w gl 160 (u8n s.S.flatten)
 own:w.ownsRow 0 150 2 (.slice A n c) n (wc E)
 list:s.L=E.map fun e=>(e.at_,e.bs)
 ent:∀e ∈ E,Rd w (some ⟨e.b,0,none⟩) 64 e.c (u8n e.bs)∧F e.b∧e.b≠g∧e.b≠gl∧∀k,(Value.slice A n c).ownBlock=some k→e.b≠k
 fg:F g
 fl:F gl
 ne:gl≠g
 fw:∀k,(Value.slice A n c).ownBlock=some k→F k∧k≠g∧k≠gl
 lt:∀k,F k→k<w.heap.size
 ok:s.ok
def Dk (w:World) (F:Nat→Prop) (g:Nat) (s:St):Prop:=∃gl A n c E,At w F g s gl A n c E
section
variable {w w':World} {F G:Nat→Prop} {g gl n c:Nat} {s:St} {A:Option Addr} {E:List Wr}
theorem At.len (h:At w F g s gl A n c E):E.length=n:=by
 have:=h.own.1
 rw [wc_len] at this
 omega
theorem At.long (h:At w F g s gl A n c E):s.L.length=n:=by rw [h.list,List.length_map,h.len]
theorem At.cells (h:At w F g s gl A n c E):w.cell? ⟨g,0,none⟩=some (.slice (some ⟨gl,0,none⟩) s.S.length s.S.length)∧w.cell? ⟨g,1,none⟩=some (.slice A n c)∧w.cell? ⟨g,2,none⟩=some (.int .i64 s.fuse)∧w.cell? ⟨g,3,none⟩=some (.bool s.down):=
 ⟨h.head.cell rfl,h.head.cell rfl,h.head.cell rfl,h.head.cell rfl⟩
theorem At.keep (h:At w F g s gl A n c E) (k:Keep G w w') (hd:∀k,F k→¬G k):At w' F g s gl A n c E:=
 ⟨k.blk h.head (hd _ h.fg),k.blk h.laid (hd _ h.fl),k.own h.own fun i hi=>hd i (h.fw i hi).1,h.list,fun e he=>by
  obtain⟨h1,h2,h3,h4,h5⟩:=h.ent e he
  exact⟨k.rd h1 fun _ b o hb=>by injection hb with hb;injection hb with hb _;exact hb▸hd _ h2,h2,h3,h4,h5⟩,
  h.fg,h.fl,h.ne,h.fw,fun i hi=>Nat.lt_of_lt_of_le (h.lt i hi) k.size,h.ok⟩
theorem Dk.keep (h:Dk w F g s) (k:Keep G w w') (hd:∀k,F k→¬G k):Dk w' F g s:=by
 obtain⟨gl,A,n,c,E,h⟩:=h
 exact⟨gl,A,n,c,E,h.keep k hd⟩
theorem Dk.below (h:Dk w F g s) (hb:Below w.heap.size w w'):Dk w' F g s:=h.keep (Keep.of_below (F:=fun _=>False) hb) fun _ _ h=>h
theorem Dk.lt (h:Dk w F g s):∀k,F k→k<w.heap.size:=by obtain⟨_,_,_,_,_,h⟩:=h;exact h.lt
theorem Dk.ok (h:Dk w F g s):s.ok:=by obtain⟨_,_,_,_,_,h⟩:=h;exact h.ok
theorem At.heads {f:Int} {d:Bool} (h:At w F g s gl A n c E) (h':Blk w' g 105 (hd gl s.S.length A n c f d)) (k:Keep (fun i=>i=g) w w') (lo : -9223372036854775808≤f) (hi:f≤9223372036854775807):At w' F g { s with fuse:=f,down:=d } gl A n c E:=
 ⟨h',k.blk h.laid h.ne,k.own h.own fun i hi=>(h.fw i hi).2.1,h.list,fun e he=>by
  obtain⟨h1,h2,h3,h4,h5⟩:=h.ent e he
  exact⟨k.rd h1 fun _ b o hb=>by injection hb with hb;injection hb with hb _;exact hb▸h3,h2,h3,h4,h5⟩,
  h.fg,h.fl,h.ne,h.fw,fun i hi=>Nat.lt_of_lt_of_le (h.lt i hi) k.size,⟨h.ok.pos,h.ok.most,h.ok.sec,h.ok.wait,lo,hi⟩⟩
theorem At.fuse (h:At w F g s gl A n c E) {f:Int} (lo : -9223372036854775808≤f) (hi:f≤9223372036854775807):At (w.setCell ⟨g,2,none⟩ (.int .i64 f)) F g { s with fuse:=f } gl A n c E:=
 h.heads (f:=f) (d:=s.down) (h.head.set 2 _) (Keep.set w 2 _ rfl) lo hi
theorem At.down_ (h:At w F g s gl A n c E) (d:Bool):At (w.setCell ⟨g,3,none⟩ (.bool d)) F g { s with down:=d } gl A n c E:=
 h.heads (f:=s.fuse) (d:=d) (h.head.set 3 _) (Keep.set w 3 _ rfl) h.ok.lo h.ok.hi
end
def Got (F:Nat→Prop) (g:Nat) (w:World) (v:Value) (s':St) (e:Ending) (w':World):Prop:=
 e=.returned v∧∃F',Dk w' F' g s'∧Keep F w w'∧∀k,F' k→F k∨w.heap.size≤k
def spend (s:St):Bool×St:=
 if s.fuse=0 then (false,{ s with down:=true }) else if s.down then (false,s) else (true,if 0<s.fuse then { s with fuse:=s.fuse-1 } else s)
def inB (s:St) (i:Int):Bool:=decide (0≤i∧i<(s.S.length:Int))
theorem has_any (F:Nat→Prop) (g:Nat) (s:St) (i:Int) (w:World) (hD:Dk w F g s) :
 Calls Tryz.prog 84 #[.pointer (some ⟨g,0,none⟩),.int .i64 i] w fun e w'=>e=.returned (.bool (inB s i))∧w=w':=by
 obtain⟨gl,A,n,c,E,h⟩:=hD
 obtain⟨c0,_,_,_⟩:=h.cells
 have hp:=h.ok.pos
 have hm:=h.ok.most
 clear h
 obtain⟨N,hN⟩:∃N,N=s.S.length:=⟨_,rfl⟩
 unfold inB
 rw [←hN] at c0 hp hm ⊢
 clear hN
 by_cases h0:0≤i
 ·go_enter Tryz.func84,Tryz.ntmps84
  go_wp2
  go_ret
  exact⟨ret_bool (by simp [h0]),rfl⟩
 ·go_enter Tryz.func84,Tryz.ntmps84
  go_wp2
  go_ret
  exact⟨ret_bool (by rw [Bool.eq_iff_iff];simp;omega),rfl⟩
theorem len_any (F:Nat→Prop) (g:Nat) (s:St) (w:World) (hD:Dk w F g s):Calls Tryz.prog 30 #[.pointer (some ⟨g,0,none⟩)] w fun e w'=>e=.returned (.int .i64 (s.S.length:Nat))∧w=w':=by
 obtain⟨gl,A,n,c,E,h⟩:=hD
 obtain⟨c0,_,_,_⟩:=h.cells
 clear h
 go_enter Tryz.func30,Tryz.ntmps30
 go_wp2
 go_ret
 exact⟨rfl,rfl⟩
theorem spend_any (F:Nat→Prop) (g:Nat) (s:St) (w:World) (hD:Dk w F g s) :
 Calls Tryz.prog 86 #[.pointer (some ⟨g,0,none⟩)] w (Got F g w (.bool (spend s).1) (spend s).2):=by
 obtain⟨gl,A,n,c,E,h⟩:=hD
 obtain⟨_,_,c2,c3⟩:=h.cells
 have f2:=h.head.frozen 2
 have f3:=h.head.frozen 3
 have lo:=h.ok.lo
 have hi:=h.ok.hi
 have H:=Hz h
 clear h
 unfold spend
 by_cases h0:s.fuse=0
 ·rw [if_pos h0]
  rw [h0] at c2
  go_enter Tryz.func86,Tryz.ntmps86
  go_wp2
  go_ret
  exact⟨rfl,F,⟨gl,A,n,c,E,H.out.down_ true⟩,Keep.set _ _ _ H.out.fg,fun k hk=>.inl hk⟩
 ·rw [if_neg h0]
  have h0':(s.fuse==0)=false:=by simpa using h0
  have H0:=Hz h0
  clear h0
  cases hd:s.down with
  | true=>
    rw [hd] at c3
    rw [if_pos rfl]
    have Hd:=Hz hd
    clear hd
    go_enter Tryz.func86,Tryz.ntmps86
    go_wp2
    go_ret
    exact⟨rfl,F,⟨gl,A,n,c,E,H.out⟩,Keep.refl _ _,fun k hk=>.inl hk⟩
  | false=>
    rw [hd] at c3
    rw [if_neg (by simp)]
    have Hd:=Hz hd
    clear hd
    by_cases hp:0<s.fuse
    ·rw [if_pos hp]
     go_enter Tryz.func86,Tryz.ntmps86
     go_wp2
     go_ret
     have hA:=H.out.fuse (f:=s.fuse-1) (by omega) (by omega)
     rw [Hd.out] at hA
     exact⟨rfl,F,⟨gl,A,n,c,E,hA⟩,Keep.set _ _ _ H.out.fg,fun k hk=>.inl hk⟩
    ·rw [if_neg hp]
     go_enter Tryz.func86,Tryz.ntmps86
     go_wp2
     go_ret
     exact⟨rfl,F,⟨gl,A,n,c,E,H.out⟩,Keep.refl _ _,fun k hk=>.inl hk⟩
theorem all_any (i:Int) (w:World):Calls Tryz.prog 208 #[.int .i64 i] w fun e w'=>e=.returned (.bool true)∧w=w':=by
 go_enter Tryz.func208,Tryz.ntmps208
 go_wp2
 go_ret
 exact⟨rfl,rfl⟩
end DskA
namespace DskB
open Go.RowKit Kit Byt Mem DskA
theorem info8:(Tryz.prog.info? 5).map (fun i=>(i.zero,i.size,i.bytes))=some (some (.int .u8 0),1,1):=by kernel_rfl
theorem size8:(Tryz.prog.info? 5).map (·.size)=some 1:=by kernel_rfl
def Fresh (w:World) (xs:List Nat) (e:Ending) (w':World):Prop:=
 ∃A n c,Hid (n=xs.length)∧e=.returned (.slice A n c)∧w'.ownsRow w.heap.size 5 1 (.slice A n c) n (u8n xs)∧Below w.heap.size w w'
theorem Fresh.of {w w':World} {xs:List Nat} {A:Option Addr} {n c:Nat} (h:w'.ownsRow w.heap.size 5 1 (.slice A n c) n (u8n xs)) (hb:Below w.heap.size w w'):Fresh w xs (.returned (.slice A n c)) w':=by
 have hn:=h.1
 rw [u8n_len] at hn
 exact⟨A,n,c,(show _=_ by omega),rfl,h,hb⟩
theorem own_some {w:World} {base n c size:Nat} {e:TypeId} {A:Option Addr} {xs:List Value} (h:w.ownsRow base e size (.slice A n c) n xs) (hn:0<n):∃g,A=some ⟨g,0,none⟩∧base≤g∧g<w.heap.size:=by
 rcases h.2 with⟨hv,h0⟩|⟨g,cap',cur,hv,hb,hh,_⟩
 ·omega
 ·simp only [Value.slice.injEq] at hv
  exact⟨g,hv.1,hb,lt_of_block hh⟩
theorem u8n_set (xs:List Nat) (k y:Nat):(u8n xs).set k (.int .u8 (y:Int))=u8n (xs.set k y):=by simp [u8n,List.map_set]
def zs (n:Nat):List Nat:=List.replicate n 0
theorem zs_len (n:Nat):(zs n).length=n:=List.length_replicate
theorem zs_flat (k:Nat):(List.replicate k (zs 64)).flatten=zs (k*64):=by unfold zs;generalize 64=m;simp
theorem zs_made (m:Nat):madeCells (u8n (zs 64)).toArray m=(u8n (zs m)).toArray:=by
 obtain⟨q,hq⟩:∃q:Nat,q=64:=⟨_,rfl⟩
 rw [←hq]
 apply Array.ext
 ·simp [madeCells,u8n,zs]
 ·intro i h1 h2
  have:i%q<q:=Nat.mod_lt _ (by omega)
  simp [madeCells,u8n,zs,this]
theorem info_sec:(Tryz.prog.info? 160).map (fun i=>(i.zero,i.size,i.bytes))=some (some (.agg (u8n (zs 64)).toArray),64,64):=by kernel_rfl
theorem wpList_make_wide {P:Program} {ops:Array Oper} {rest:List Oper} {o:Oper} {a:Act} {Q:Exit→Act→World→Prop} (w:World) (hg:o.guard=none) (l:Operand) (t:TypeId) (hop:o.op=Op.makeSlice t l l)
 (e:TypeId) (i:TypeInfo) (h1:P.underlying t=some (.slice e)) (h2:P.info? e=some i) (h3:i.zero=some (.agg (u8n (zs 64)).toArray)) (h4:i.size=64) (h5:i.bytes=64)
 (L:Int) (n:Nat) (hl:a.eval l=.int .i64 L) (hL:L=(n:Int)) (hn:n≤128)
 (hK:∀w',Hid (Blk w' w.heap.size e (u8n (zs (n*64))))→Below w.heap.size w w'→Hid (w'.heap.size=w.heap.size+1)→wpList P ops Q rest (a.put o.dst (.slice (some ⟨w.heap.size,0,none⟩) n n)) w'):wpList P ops Q (o :: rest) a w:=by
 refine wpList_plain hg fun K hK'=>?_
 subst hL
 have hrun:=run_make (P:=P) w t e i _ h1 h2 h3 .i64 .i64 n n (by omega) (by omega) (by rw [h5];omega) (by omega)
 simp only [Int.toNat_natCast,h4,Value.cells,zs_made] at hrun
 unfold Oper.wp
 simp [execOp,hop,hl,hrun,Result.andThen]
 exact hK' _ _ (hK _ (Blk.new w e _) ((Below.refl _ _).alloc (Nat.le_refl _) _) (by simp [Hid]))
def cnt (n:Int):Nat:=(min (max n 1) 128).toNat
theorem cnt_pos (n:Int):1≤cnt n:=by unfold cnt;omega
theorem cnt_le (n:Int):cnt n≤128:=by unfold cnt;omega
def newSt (n:Int):St:=⟨List.replicate (cnt n) (zs 64),[],-1,false⟩
def Made (w:World) (s:St) (e:Ending) (w':World):Prop:=
 ∃g F,e=.returned (.pointer (some ⟨g,0,none⟩))∧Dk w' F g s∧Below w.heap.size w w'∧∀k,F k→w.heap.size≤k
theorem newSt_at {w:World} {F:Nat→Prop} {g gl:Nat} {n:Int} (h:Blk w g 105 (hd gl (cnt n) none 0 0 (-1) false)) (hl:Blk w gl 160 (u8n (zs (cnt n*64)))) (hg:F g) (hgl:F gl) (hne:gl≠g) (hlt:∀k,F k→k<w.heap.size) :
 Dk w F g (newSt n):=by
 have p1:=cnt_pos n
 have p2:=cnt_le n
 refine⟨gl,none,0,0,[],⟨?_,?_,World.ownsRow_nil _ _ _ _,rfl,by simp,hg,hgl,hne,(fun k hk=>by cases hk),hlt,⟨?_,?_,?_,by simp [newSt],by simp [newSt],by simp [newSt]⟩⟩⟩
 ·simpa [newSt] using h
 ·simpa only [newSt,zs_flat] using hl
 ·simpa [newSt] using p1
 ·simpa [newSt] using p2
 ·intro x hx
  rw [(List.mem_replicate.1 hx).2,zs_len]
theorem new_any (n:Int) (w:World):Calls Tryz.prog 28 #[.int .i64 n] w (Made w (newSt n)):=by
 obtain⟨i0,hi0,hz0,hz1,hz2⟩:=info_parts info_sec
 have p1:=cnt_pos n
 have p2:=cnt_le n
 have hc:(n≤0∧cnt n≤1)∨(1≤n∧n≤128∧n≤(cnt n:Nat)∧(cnt n:Nat)≤n)∨(128<n∧128≤cnt n):=by unfold cnt;omega
 obtain⟨K,hK⟩:∃K,K=cnt n:=⟨_,rfl⟩
 rw [←hK] at p1 p2 hc
 have HK:=Hz hK
 clear hK
 rcases hc with⟨h1,h2⟩|⟨h1,h1',h2,h2'⟩|⟨h1,h2⟩
 all_goals
  go_enter Tryz.func28,Tryz.ntmps28
  go_wp2_with (refine wpList_make_wide _ rfl (.tmp 5) 102 rfl 160 i0 Tryz.underlying102 hi0 hz0 hz1 hz2 _ K rfl (by omega) p2 ?_;intro w1 hB1 hb1 hs1)
  go_ret
  have hs:=hs1.out
  refine⟨w1.heap.size,fun k=>k=w.heap.size∨k=w1.heap.size,rfl,newSt_at (gl:=w.heap.size) ?_ ?_ (.inr rfl) (.inl rfl) (by omega) (fun k hk=>by simp;omega),hb1.alloc hb1.size _,fun k hk=>by omega⟩
  ·rw [←HK.out];exact Blk.new w1 _ (hd w.heap.size K none 0 0 (-1) false)
  ·rw [←HK.out];exact Blk.alloc hB1.out _
end DskB
namespace DskC
open Go.RowKit Kit Byt Mem DskA DskB
theorem clone_any (A:Option Addr) (n c:Nat) (xs:List Nat) (w:World) (hR:Rd w A n c (u8n xs)) (hn:0<n) (hl:n≤140737488351232) :
 Calls Tryz.prog 87 #[.slice A n c] w (Fresh w xs):=by
 obtain⟨i0,hi0,hz0,hz1,hz2⟩:=info_parts info8
 obtain⟨b,o,hA⟩:∃b o,A=some ⟨b,o,none⟩:=by
  obtain⟨b,o,hA,_⟩:=hR.at_ hn
  exact⟨b,o,hA⟩
 have HR:=Hz hR
 clear hR
 subst hA
 have hnil:=fun (W:World)=>Lib.run_eql_slice_nil (P:=Tryz.prog) W 52 5 (some ⟨b,o,none⟩) n c 0 0 Tryz.underlying52
 go_enter Tryz.func87,Tryz.ntmps87
 go_wp2_with (at_builtin;refine wpList_add _ rfl (.tmp 5) (.tmp 6) _ rfl w.heap.size 5 i0 _ 1 Tryz.underlying52 hi0 hz0 hz1 hz2 rfl _ 0 [] rfl (emptied w _) (some ⟨b,o,none⟩) n c (u8n xs) rfl (HR.out.alloc _) (u8n_one _) (by omega) (by omega) (size_alloc _ _) ?_;intro A2 n2 c2 w2 hn2 hown2 hg2 hat2;have hb2:=below_add ((Below.refl w.heap.size w).alloc (Nat.le_refl _) _) (emptied w _) (Nat.le_refl _) hg2)
 go_ret
 exact Fresh.of (by simpa using hown2) hb2
section
variable {w w2 w3:World} {F:Nat→Prop} {g gl n c n' c' b cb i:Nat} {s:St} {A A':Option Addr} {E:List Wr} {bs:List Nat} {o:Obj}
theorem grow_keep (hb2:Below w.heap.size w w2) {row:Option Nat} (hg:(w2.alloc o).grownBy w3 row):Keep (fun k=>row=some k) w w3:=
 ((Keep.of_below (hb2.alloc hb2.size o)).trans (Keep.grown (F:=fun k=>row=some k) hg fun _ h=>h) fun _ h=>.inl h)
theorem At.add (h:At w F g s gl A n c E) (hb2:Below w.heap.size w w2) (hR:Rd w2 (some ⟨b,0,none⟩) 64 cb (u8n bs)) (hb:w.heap.size≤b) (hbl:b<w2.heap.size) (hg:(w2.alloc o).grownBy w3 (Value.slice A n c).ownBlock)
 (hat:(Value.slice A' n' c').ownBlock=(Value.slice A n c).ownBlock∨(Value.slice A' n' c').ownBlock=some (w2.alloc o).heap.size)
 (hown:w3.ownsRow 0 150 2 (.slice A' n' c') n' (wc E++Wr.cells ⟨i,b,cb,bs⟩)) (hi:i<s.S.length) (hbs:bs.length=64) :
 At (w3.setCell ⟨g,1,none⟩ (.slice A' n' c')) (fun k=>F k∨k=b∨(Value.slice A' n' c').ownBlock=some k) g { s with L:=s.L++[(i,bs)] } gl A' n' c' (E++[⟨i,b,cb,bs⟩]):=by
 have hK:=grow_keep hb2 hg
 have hsz:=hb2.size
 have hsa:(w2.alloc o).heap.size=w2.heap.size+1:=by simp
 have hs3:=hg.size
 have hgw:=h.lt g h.fg
 have hglw:=h.lt gl h.fl
 have ho':∀k,(Value.slice A' n' c').ownBlock=some k→(F k∧k≠g∧k≠gl∧(Value.slice A n c).ownBlock=some k)∨k=w2.heap.size+1:=by
  intro k hk
  rcases hat with h1|h1
  ·rw [h1] at hk
   exact .inl ⟨(h.fw k hk).1,(h.fw k hk).2.1,(h.fw k hk).2.2,hk⟩
  ·rw [h1,hsa] at hk
   injection hk with hk
   exact .inr hk.symm
 have hS:Keep (fun k=>k=g) w3 (w3.setCell ⟨g,1,none⟩ (.slice A' n' c')):=Keep.set _ _ _ rfl
 refine⟨?_,?_,?_,?_,?_,.inl h.fg,.inl h.fl,h.ne,?_,?_,⟨h.ok.pos,h.ok.most,h.ok.sec,?_,h.ok.lo,h.ok.hi⟩⟩
 ·exact (hK.blk h.head fun hk=>(h.fw g hk).2.1 rfl).set 1 _
 ·exact hS.blk (hK.blk h.laid fun hk=>(h.fw gl hk).2.2 rfl) h.ne
 ·rw [wc_app]
  refine hS.own (by simpa [wc] using hown) fun k hk=>?_
  rcases ho' k hk with h1|h1
  ·exact h1.2.1
  ·omega
 ·simp [h.list]
 ·intro e he
  rcases List.mem_append.1 he with he|he
  ·obtain⟨h1,h2,h3,h4,h5⟩:=h.ent e he
   have hel:=h.lt _ h2
   refine⟨hS.rd (hK.rd h1 fun _ b o hb hk=>?_) fun _ b o hb hk=>?_,.inl h2,h3,h4,fun k hk he=>?_⟩
   ·injection hb with hb;injection hb with hb _
    exact h5 b hk hb
   ·injection hb with hb;injection hb with hb _
    exact h3 (hb.trans hk)
   ·rcases ho' k hk with h1|h1
    ·exact h5 k h1.2.2.2 he
    ·omega
  ·obtain rfl:=List.mem_singleton.1 he
   refine⟨hS.rd ((Keep.grown (F:=fun k=>(Value.slice A n c).ownBlock=some k) hg fun _ h=>h).rd (hR.alloc o) fun _ b' o' hb' hk=>?_) fun _ b' o' hb' hk=>?_,.inr (.inl rfl),?_,?_,fun k hk he=>?_⟩
   ·injection hb' with hb';injection hb' with hb' _
    have hb':b=b':=hb'
    have:=h.lt _ (h.fw _ hk).1
    omega
   ·injection hb' with hb';injection hb' with hb' _
    have hb':b=b':=hb'
    omega
   ·show b≠g
    omega
   ·show b≠gl
    omega
   ·have he:b=k:=he
    rcases ho' k hk with h1|h1
    ·have:=h.lt _ h1.1
     omega
    ·omega
 ·intro k hk
  refine⟨.inr (.inr hk),?_⟩
  rcases ho' k hk with h1|h1
  ·exact⟨h1.2.1,h1.2.2.1⟩
  ·omega
 ·intro k hk
  have hs4:(w3.setCell ⟨g,1,none⟩ (.slice A' n' c')).heap.size=w3.heap.size:=by simp [World.setCell]
  rw [hs4]
  rcases hk with hk|hk|hk
  ·have:=h.lt k hk;omega
  ·omega
  ·exact (hown.lt k hk).2
 ·intro p hp
  rcases List.mem_append.1 hp with hp|hp
  ·exact h.ok.wait p hp
  ·obtain rfl:=List.mem_singleton.1 hp
   exact⟨hi,hbs⟩
theorem At.added (h:At w F g s gl A n c E) (hb2:Below w.heap.size w w2) (hg:(w2.alloc o).grownBy w3 (Value.slice A n c).ownBlock) (v:Value):Keep F w (w3.setCell ⟨g,1,none⟩ v):=
 ((grow_keep hb2 hg).mono fun k _ hk=>(h.fw k hk).1).trans (Keep.set (F:=F) w3 1 v h.fg) fun _ h=>.inl h
end
theorem At.frz {w w2 w3:World} {F:Nat→Prop} {g gl n c:Nat} {s:St} {A:Option Addr} {E:List Wr} {o:Obj} (h:At w F g s gl A n c E) (hb2:Below w.heap.size w w2) (hg:(w2.alloc o).grownBy w3 (Value.slice A n c).ownBlock) (hn : ¬(Value.slice A n c).ownBlock=some g):w3.frozen? ⟨g,1,none⟩=false:=
 ((grow_keep hb2 hg).blk h.head hn).frozen 1
theorem new_cells (w:World) (cs:List Value) (t:TypeId):∀j u,cs[j]?=some u→(w.alloc (.cells cs.toArray t)).cell? ((⟨w.heap.size,0,none⟩:Addr).add j)=some u:=by
 intro j u hj
 rw [Addr.add_lit]
 exact (Blk.new w t cs).cell (by simpa using hj)
theorem wr_one (e:Wr):∀u ∈ e.cells,u.oneCell'=true:=by
 intro u hu
 simp only [Wr.cells,List.mem_cons,List.not_mem_nil,or_false] at hu
 rcases hu with rfl|rfl <;> rfl
theorem info_wr:(Tryz.prog.info? 150).map (fun i=>(i.zero,i.size,i.bytes))=some (some (.agg #[.int .i64 0,.slice none 0 0]),2,32):=by kernel_rfl
theorem write_down (F:Nat→Prop) (g:Nat) (s:St) (i:Int) (A:Option Addr) (c:Nat) (w:World) (hD:Dk w F g s) (hi:inB s i=true) (hs:(spend s).1=false) :
 Calls Tryz.prog 36 #[.pointer (some ⟨g,0,none⟩),.int .i64 i,.slice A 64 c] w (Got F g w (.int .i64 8) (spend s).2):=by
 have HC:=fun W h=>has_any F g s i W h
 rw [hi] at HC
 have HC':=Hz HC
 have HS:=fun W h=>spend_any F g s W h
 rw [hs] at HS
 have HS':=Hz HS
 have Hi:=Hz hi
 have Hs:=Hz hs
 clear HC hi HS hs
 go_enter Tryz.func36,Tryz.ntmps36
 go_wp2_with (first
  | (go_at_call 84;refine (HC'.out _ hD).mono ?_;rintro e w' ⟨rfl,rfl⟩)
  | (go_at_call 86;refine (HS'.out _ hD).mono ?_;rintro e w' ⟨rfl,F1,hD1,hk1,hf1⟩))
 go_ret
 exact⟨rfl,F1,hD1,hk1,hf1⟩
theorem got_write {w w1 w2 w3:World} {F F1:Nat→Prop} {g gl n c n' c' b cb i base:Nat} {s s1:St} {A A':Option Addr} {E:List Wr} {bs:List Nat} {o:Obj}
 (h:At w1.drew F1 g s1 gl A n c E) (hsl:s1.L=s.L∧s1.S=s.S) (hk1:Keep F w w1) (hf1:∀k,F1 k→F k∨w.heap.size≤k) (hb2:Below w1.drew.heap.size w1.drew w2) (hob:w2.ownsRow base 5 1 (.slice (some ⟨b,0,none⟩) 64 cb) 64 (u8n bs))
 (hb:w1.drew.heap.size≤b) (hbl:b<w2.heap.size) (hg:(w2.alloc o).grownBy w3 (Value.slice A n c).ownBlock) (hat:(Value.slice A' n' c').ownBlock=(Value.slice A n c).ownBlock∨(Value.slice A' n' c').ownBlock=some (w2.alloc o).heap.size)
 (hown:w3.ownsRow 0 150 2 (.slice A' n' c') n' (wc E++Wr.cells ⟨i,b,cb,bs⟩)) (hi:i<s1.S.length) (hbs:bs.length=64) :
 Got F g w (.int .i64 0) ⟨s1.S,s.L++[(i,bs)],s1.fuse,s1.down⟩ (.returned (.int .i64 0)) (w3.setCell ⟨g,1,none⟩ (.slice A' n' c')):=by
 have h4:=At.add h hb2 (Rd.own hob) hb hbl hg hat hown hi hbs
 have hs:w.heap.size≤w1.heap.size:=hk1.size
 have hb:w1.heap.size≤b:=hb
 rw [hsl.1] at h4
 refine⟨rfl,_,⟨gl,A',n',c',_,h4⟩,(hk1.drew.trans (At.added h hb2 hg _) hf1),fun k hk=>?_⟩
 rcases hk with hk|hk|hk
 ·exact hf1 k hk
 ·exact .inr (by omega)
 ·rcases hat with h1|h1
  ·rw [h1] at hk
   exact hf1 k (h.fw k hk).1
  ·rw [h1] at hk
   injection hk with hk
   have hs2:w1.heap.size≤w2.heap.size:=hb2.size
   simp at hk
   exact .inr (by omega)
theorem write_ok (F:Nat→Prop) (g:Nat) (s:St) (i:Nat) (A:Option Addr) (c:Nat) (bs:List Nat) (w:World) (hD:Dk w F g s) (hi:i<s.S.length) (hR:Rd w A 64 c (u8n bs)) (hA:∀b o,A=some ⟨b,o,none⟩→¬F b) (hs:(spend s).1=true) (hL:s.L.length≤1000000000) :
 Calls Tryz.prog 36 #[.pointer (some ⟨g,0,none⟩),.int .i64 (i:Int),.slice A 64 c] w (Got F g w (.int .i64 0) { (spend s).2 with L:=s.L++[(i,bs)] }):=by
 have hin:inB s i=true:=by simp [inB,hi]
 have HC:=fun W h=>has_any F g s i W h
 rw [hin] at HC
 have HC':=Hz HC
 have HS:=fun W h=>spend_any F g s W h
 rw [hs] at HS
 have HS':=Hz HS
 have Hi:=Hz hin
 have hSL:(spend s).2.L=s.L∧(spend s).2.S=s.S:=by
  unfold spend
  split
  ·exact⟨rfl,rfl⟩
  ·split
   ·exact⟨rfl,rfl⟩
   ·dsimp only
    split <;> exact⟨rfl,rfl⟩
 obtain⟨s1,hs1⟩:∃s1,s1=(spend s).2:=⟨_,rfl⟩
 rw [←hs1] at hSL HS' ⊢
 have HSL:=Hz hSL
 have HR:=Hz hR
 have HA:=Hz hA
 have Hbs:=Hz (show bs.length=64 from Rd.nats hR)
 have hi1:i<s1.S.length:=by rw [hSL.2];exact hi
 clear HC hin HS hs hs1 hSL hR hA hi
 obtain⟨i0,hi0,hz0,hz1,hz2⟩:=info_parts info_wr
 go_enter Tryz.func36,Tryz.ntmps36
 go_wp2_with (first
  | (go_at_call 84;refine (HC'.out _ hD).mono ?_;rintro e w' ⟨rfl,rfl⟩)
  | (go_at_call 86;refine (HS'.out _ hD).mono ?_;rintro e w1 ⟨rfl,F1,hD1,hk1,hf1⟩))
 obtain⟨gl,A1,n1,c1,E,h1⟩:=hD1
 obtain⟨_,k1,_,_⟩:=h1.cells
 have hn1:n1≤1000000000:=by rw [←h1.long,HSL.out.1];exact hL
 have hg1:=h1.lt g h1.fg
 have HR1:=Hz (show Rd w1.drew A 64 c (u8n bs) from hk1.rd HR.out fun _ b o h=>HA.out b o h)
 have H1:=Hz (show At w1.drew F1 g s1 gl A1 n1 c1 E from h1.keep (Keep.drew (Keep.refl (fun _=>False) w1)) fun _ _ h=>h)
 have hg1:g<w1.drew.heap.size:=hg1
 clear h1
 go_region_law (first
  | (rw [if_pos (by rfl)];go_simp;refine (clone_any A 64 c bs _ HR1.out (by omega) (by omega)).mono ?_;rintro e w2 ⟨B,nb,cb,hnb,rfl,hownb,hb2⟩;obtain rfl:nb=64:=hnb.out.trans Hbs.out;obtain⟨b,rfl,hbw,hbl⟩:=own_some hownb (by omega);have HOB:=Hz hownb;have HB2:=Hz hb2;have k2:=(hb2.cell (p:=⟨g,1,none⟩) hg1).trans H1.out.cells.2.1;have k2a:=((Below.refl w2.heap.size w2).alloc (Nat.le_refl _) (.cells #[.int .i64 (i:Int),.slice (some ⟨b,0,none⟩) 64 cb] 150)).cell (p:=⟨g,1,none⟩) (by have:=hb2.size;simp;omega) |>.trans k2;clear hownb hb2 hnb;go_wp2_with fail)
  | (rw [if_pos (by rfl)];refine wp_append_at (.tmp 27) (.tmp 32) 103 rfl 0 150 i0 _ 2 32 Tryz.underlying103 hi0 hz0 hz1 hz2 rfl (by omega) (.slice A1 n1 c1) n1 (wc E) rfl (((Keep.of_below (F:=fun _=>False) HB2.out).own H1.out.own fun _ _ h=>h).alloc _) ⟨w2.heap.size,0,none⟩ 1 1 (Wr.cells ⟨i,b,cb,bs⟩) rfl rfl (new_cells w2 (Wr.cells ⟨i,b,cb,bs⟩) _) (wr_one _) (by unfold maxLen;omega) (by omega) (Nat.zero_le _) ?_;intro A3 n3 c3 w3 hn3 hown3 hg3 hat3;have Hg3:=Hz hg3;have k3:w3.cell? ⟨g,1,none⟩=some (.slice A1 n1 c1):=(World.cell?_of_block (hg3.block g (by have:=HB2.out.size;simp;omega) (fun h=>(H1.out.fw g h.symm).2.1 rfl))).trans k2a;have f3:w3.frozen? ⟨g,1,none⟩=false:=(At.frz H1.out HB2.out hg3 (fun h=>(H1.out.fw g h).2.1 rfl));clear hg3))
 all_goals
  go_wp2
  go_ret
  exact got_write H1.out HSL.out hk1 hf1 HB2.out HOB.out hbw hbl Hg3.out hat3.out hown3.out hi1 Hbs.out
end DskC
namespace DskD
open Go.RowKit Go.Shelf Kit Byt Mem DskA DskB DskC
attribute [local go_sem] Oper.semAt_some
def upto {α:Type} (f:Nat→α) (k:Nat):List α:=(List.range k).map f
theorem upto_succ {α:Type} (f:Nat→α) (k:Nat):upto f (k+1)=upto f k++[f k]:=by simp [upto,List.range_succ]
theorem upto_length {α:Type} (f:Nat→α) (k:Nat):(upto f k).length=k:=by simp [upto]
def Wr0:Wr:=⟨0,0,0,[]⟩
def back (E:List Wr) (n k:Nat):Nat×Wr:=(n-1-k,E.getD (n-1-k) Wr0)
def enc (x:Nat×Wr):Array Value:=#[.int .i64 (x.1:Int),.agg #[.int .i64 (x.2.at_:Int),.slice (some ⟨x.2.b,0,none⟩) 64 x.2.c]]
theorem back1_in (F:Fence) (m:Nat) (h7:F.fn 188) (hro:F.round=none) (hm:1≤m) (l Bs n₀:Nat) (A:Option Addr) (n c:Nat) (E:List Wr) (hl:n≤1000000000) (hBs:Bs<n₀) (J Jx:List (Nat×Wr)→World→Prop)
 (hY:∀pre x W,J pre W→pre.length<n→YieldAt F (m-1) Tryz.prog l (enc x) W fun e W'=>
   (e=.returned (.bool true)∧J (pre++[x]) W'∧Below n₀ W W')∨(e=.returned (.bool false)∧Jx (pre++[x]) W'))
 (W:World) (hc:W.cell? ⟨Bs,0,none⟩=some (.slice A n c)) (hE:E.length=n) (hb:∀b,(Value.slice A n c).ownBlock=some b→b<n₀) (hown:W.ownsRow 0 150 2 (.slice A n c) n (wc E)) (h0:J [] W) :
 CallsIn F m Tryz.prog 188 #[.func (.yield l) #[] #[],.pointer (some ⟨Bs,0,none⟩)] W fun e W'=>(∃v,e=.returned v)∧
  ((∃ys,ys=upto (back E n) n∧J ys W')∨(∃pre,(∃k,k≤n∧pre=upto (back E n) k)∧Jx pre W')):=by
 have HE:=Hz hE
 have Hown:=Hz hown
 have Hb:=Hz hb
 clear hE hown hb
 refine callsIn_of_wp Tryz.func188 rfl h7 ?_ hro
 simp only [Tryz.ntmps188,List.size_toArray,List.length_cons,List.length_nil,Nat.reduceAdd,Nat.reduceSub,Array.replicate_succ,Array.replicate_zero,List.push_toArray,List.append_toArray,List.nil_append,List.cons_append]
 gi_wp2
 gi_loopw [3] (fun i wr=>∃k:Nat,k≤n∧i=.int .i64 ((n:Int)-1-(k:Int))∧J (upto (back E n) k) wr∧Below n₀ W wr)
  (fun i _=>(intOf i+1).toNat)
 case atStart=>exact⟨0,Nat.zero_le _,by simp,h0,Below.refl _ _⟩
 case round=>
  obtain⟨k,hk,rfl,hJs,hnx⟩:=hrel
  have hcr:=(hnx.cell (p:=⟨Bs,0,none⟩) hBs).trans hc
  by_cases hlt:k<n
  ·obtain⟨b,hA,_,_⟩:=own_some Hown.out (by omega)
   subst hA
   have hbn:b<n₀:=Hb.out b rfl
   have hw:=wc_at (E:=E) (k:=n-1-k) (by rw [HE.out];omega)
   have g0:wr.cell? ⟨b,(n-1-k)*2,none⟩=some (.int .i64 ((E.getD (n-1-k) Wr0).at_:Int)):=by
    rw [hnx.cell (p:=⟨b,(n-1-k)*2,none⟩) hbn,Hown.out.cellAt _ (by omega),Nat.mul_comm,hw.1]
    simp [HE.out,show n-1-k<n by omega]
   have g1:wr.cell? ⟨b,(n-1-k)*2+1,none⟩=some (.slice (some ⟨(E.getD (n-1-k) Wr0).b,0,none⟩) 64 (E.getD (n-1-k) Wr0).c):=by
    rw [hnx.cell (p:=⟨b,(n-1-k)*2+1,none⟩) hbn,Hown.out.cellAt _ (by omega),Nat.mul_comm,hw.2]
    simp [HE.out,show n-1-k<n by omega]
   clear hw
   obtain⟨q,hq⟩:∃q:Nat,q=n-1-k:=⟨_,rfl⟩
   have hq1:(n:Int)-1-(k:Int)=(q:Int):=by omega
   obtain⟨fn,tmps,assign,body,hy,hR⟩:=hY _ (back E n k) wr hJs (by rw [upto_length];exact hlt)
   have hy1:back E n k=(q,E.getD q Wr0):=by rw [hq];rfl
   rw [hy1] at hy
   rw [←hq] at g0 g1
   simp only [enc] at hy
   have hqn:q<n:=by omega
   have Hq:=Hz hq
   have Hy1:=Hz hy1
   clear hq hy1
   rw [hq1]
   have Hq1:=Hz hq1
   clear hq1
   obtain⟨X,hX⟩:∃X,X=E.getD q Wr0:=⟨_,rfl⟩
   rw [←hX] at g0 g1 hy
   have HX:=Hz hX
   clear hX
   gi_wp2
   refine hR.mono ?_
   rintro e W3 (⟨rfl,hJ3,hk3⟩|⟨rfl,hJx3⟩)
   ·gi_wp2
    go_roundw
    case rel=>exact⟨k+1,by omega,congrArg (Value.int .i64) (by have:=Hq1.out;omega),by rw [upto_succ];exact hJ3,hnx.trans hk3⟩
    case measure=>simp [intOf] <;> omega
   ·gi_wp2
    refine bodyPost_ret (results_none rfl _ _ _) rfl ?_
    exact⟨⟨_,rfl⟩,.inr ⟨_,⟨k+1,by omega,(upto_succ _ _).symm⟩,hJx3⟩⟩
  ·obtain rfl:k=n:=by omega
   gi_wp2
   go_end0
   exact⟨⟨_,rfl⟩,.inl ⟨_,rfl,hJs⟩⟩
theorem back_in (F:Fence) (m:Nat) (h5:F.fn 136) (hro:F.round=none) (a:Option Addr) (len cap:Nat) (w:World) :
 CallsIn F m Tryz.prog 136 #[.slice a len cap] w fun e w'=>e=.returned (.func (.func 188) #[] #[.pointer (some ⟨w.heap.size,0,none⟩)])∧w'=w.alloc (.cells #[.slice a len cap] 103):=by
 refine callsIn_of_wp Tryz.func136 rfl h5 ?_ hro
 simp only [Tryz.ntmps136,List.size_toArray,List.length_cons,List.length_nil,Nat.reduceAdd,Nat.reduceSub,Array.replicate_succ,Array.replicate_zero,List.push_toArray,List.append_toArray,List.nil_append,List.cons_append]
 gi_wp2
 go_ret
 exact⟨rfl,rfl⟩
theorem back_stops (F:Fence) (m:Nat) (h7:F.fn 188) (hro:F.round=none) (hm:1≤m) (Bs:Nat) (A:Option Addr) (n c:Nat) (E:List Wr) (hl:n≤1000000000) (w:World) (hBs:Bs<w.heap.size)
 (hc:w.cell? ⟨Bs,0,none⟩=some (.slice A n c)) (hE:E.length=n) (hown:w.ownsRow 0 150 2 (.slice A n c) n (wc E)) :
 SeqStopsK F m Tryz.prog 188 #[.pointer (some ⟨Bs,0,none⟩)] enc (Below w.heap.size) (fun ys=>ys=upto (back E n) n)
  (fun pre=>∃k,k≤n∧pre=upto (back E n) k) n w:=fun l J Jx W hW _ _ hY h0=>
 back1_in F m h7 hro hm l Bs w.heap.size A n c E hl hBs J Jx hY W ((hW.cell (p:=⟨Bs,0,none⟩) hBs).trans hc) hE (fun b hb=>(hown.lt b hb).2) ((Keep.of_below (F:=fun _=>False) hW).own hown fun _ _ h=>h) h0
def now (s:St) (i:Nat):List Nat:=match s.L.reverse.find? (fun p=>p.1==i) with
 | some p=>p.2
 | none=>s.S.getD i []
theorem getD_rev {E:List Wr} {k:Nat} (h:k<E.length):E.getD (E.length-1-k) Wr0=E.reverse[k]'(by simpa using h):=by
 rw [List.getElem_reverse,List.getD_eq_getElem?_getD,List.getElem?_eq_getElem (by omega)]
 rfl
theorem back_rev {E:List Wr} {n:Nat} (hE:E.length=n):∀k,k≤n→(upto (back E n) k).map (·.2)=E.reverse.take k:=by
 subst hE
 intro k
 induction k with
 | zero=>intro _;rfl
 | succ k ih=>
   intro hk
   rw [upto_succ,List.map_append,ih (by omega),List.take_succ_eq_append_getElem (by simp;omega)]
   simp only [List.map_cons,List.map_nil,back]
   rw [getD_rev (by omega)]
theorem now_none {s:St} {E:List Wr} {i:Nat} (hl:s.L=E.map fun e=>(e.at_,e.bs)) (h:∀e ∈ E,e.at_≠i):now s i=s.S.getD i []:=by
 have:s.L.reverse.find? (fun p=>p.1==i)=none:=by
  rw [List.find?_eq_none]
  intro p hp
  rw [List.mem_reverse,hl,List.mem_map] at hp
  obtain⟨e,he,rfl⟩:=hp
  simpa using h e he
 rw [now,this]
theorem now_some {s:St} {E X Y:List Wr} {e:Wr} {i:Nat} (hl:s.L=E.map fun e=>(e.at_,e.bs)) (hE:E.reverse=X++[e]++Y) (hX:∀x ∈ X,x.at_≠i) (he:e.at_=i):now s i=e.bs:=by
 have:s.L.reverse.find? (fun p=>p.1==i)=some (e.at_,e.bs):=by
  rw [hl,←List.map_reverse,hE,List.map_append,List.map_append,List.find?_append,List.find?_append]
  have h0:(X.map fun e=>(e.at_,e.bs)).find? (fun p=>p.1==i)=none:=by
   rw [List.find?_eq_none]
   intro p hp
   rw [List.mem_map] at hp
   obtain⟨x,hx,rfl⟩:=hp
   simpa using hX x hx
  rw [h0]
  simp [he]
 rw [now,this]
theorem flat_at {S:List (List Nat)} (h:∀x ∈ S,x.length=64):∀{i:Nat},i<S.length→(S.flatten.drop (i*64)).take 64=S.getD i []:=by
 induction S with
 | nil=>intro i hi;simp at hi
 | cons x S ih=>
   intro i hi
   have hx:=h x (by simp)
   cases i with
   | zero=>rw [Nat.zero_mul,List.drop_zero,List.flatten_cons,List.take_append_of_le_length (by omega),List.take_of_length_le (by omega)];rfl
   | succ i=>
     have:=ih (fun y hy=>h y (by simp [hy])) (i:=i) (by simpa using hi)
     rw [List.flatten_cons,List.drop_append,List.drop_of_length_le (by omega),List.nil_append,hx,show (i+1)*64-64=i*64 by omega,this]
     simp
theorem sec_rd {w:World} {gl:Nat} {t:TypeId} {S:List (List Nat)} (hB:Blk w gl t (u8n S.flatten)) (h:∀x ∈ S,x.length=64) {i:Nat} (hi:i<S.length):Rd w (some ⟨gl,i*64,none⟩) 64 64 (u8n (S.getD i [])):=by
 have hl:(S.getD i []).length=64:=by
  have:S.getD i []=S[i]:=by simp [hi]
  rw [this]
  exact h _ (List.getElem_mem _)
 have hr:=hB.range (off:=i*64) (cs:=u8n (S.getD i [])) (by
  rw [u8n_len,hl,←flat_at h hi]
  simp [u8n])
 exact⟨by rw [u8n_len,hl],Nat.le_refl _,by omega,fun _=>⟨gl,i*64,rfl,hB.lt,hr⟩⟩
theorem blk_kept {B₀ Bx:Nat} {t:TypeId} {xs:List Value} {A B:World} {row:Option Nat} (h:Blk A Bx t xs) (hg:A.grownBy B row) (hr:∀r,row=some r→B₀≤r∧∃o:Obj,A.heap[r]?=some o∧o.isCells=false):Blk B Bx t xs:=
 (hg.block Bx h.lt fun he=>by
   obtain⟨_,o,ho,hc⟩:=hr Bx he.symm
   rw [show A.heap[Bx]?=some _ from h] at ho
   injection ho with ho
   subst ho
   simp [Obj.isCells] at hc).trans h
theorem last_in (Fn:Fence) (m:Nat) (h3:Fn.fn 85) (h5:Fn.fn 136) (h7:Fn.fn 188) (hro:Fn.round=none) (hm:3≤m)
 (F:Nat→Prop) (g:Nat) (s:St) (gl:Nat) (A:Option Addr) (n c:Nat) (E:List Wr) (i:Nat) (w:World) (h:At w F g s gl A n c E) (hi:i<s.S.length) (hL:n≤1000000000) :
 CallsIn Fn m Tryz.prog 85 #[.pointer (some ⟨g,0,none⟩),.int .i64 (i:Int)] w fun e w'=>∃b o c,e=.returned (.slice (some ⟨b,o,none⟩) 64 c)∧Rd w (some ⟨b,o,none⟩) 64 c (u8n (now s i))∧Below w.heap.size w w':=by
 obtain⟨c0,c1,_,_⟩:=h.cells
 have hgw:=h.lt g h.fg
 have hp:=h.ok.pos
 have hmo:=h.ok.most
 obtain⟨N,hN⟩:∃N,N=s.S.length:=⟨_,rfl⟩
 rw [←hN] at c0 hp hmo hi
 have HN:=Hz hN
 have H:=Hz h
 clear h hN
 have h1:1≤m:=by omega
 refine callsIn_of_wp_marks Tryz.func85 rfl h3 ?_ hro
 simp only [Tryz.ntmps85,List.size_toArray,List.length_cons,List.length_nil,Nat.reduceAdd,Nat.reduceSub,Array.replicate_succ,Array.replicate_zero,List.push_toArray,List.append_toArray,List.nil_append,List.cons_append]
 gi_wp2_with (gi_at_call 136;refine (back_in Fn (m-1) h5 hro _ _ _ _).mono ?_;rintro e w' ⟨rfl,rfl⟩)
 have bI:Blk (((w.alloc (.cells #[.int .i64 (i:Int)] 3)).alloc (.cells #[.slice none 0 0] 52)).alloc (.cells #[.slice A n c] 103)) w.heap.size 3 [.int .i64 (i:Int)]:=((Blk.new w _ _).alloc _).alloc _
 have bR:Blk (((w.alloc (.cells #[.int .i64 (i:Int)] 3)).alloc (.cells #[.slice none 0 0] 52)).alloc (.cells #[.slice A n c] 103)) (w.heap.size+1) 52 [.slice none 0 0]:=by
  have h:=(Blk.new (w.alloc (.cells #[.int .i64 (i:Int)] 3)) 52 [.slice none 0 0]).alloc (.cells #[.slice A n c] 103)
  rwa [World.size_alloc] at h
 have bN:Blk (((w.alloc (.cells #[.int .i64 (i:Int)] 3)).alloc (.cells #[.slice none 0 0] 52)).alloc (.cells #[.slice A n c] 103)) (w.heap.size+2) 103 [.slice A n c]:=by
  have h:=Blk.new ((w.alloc (.cells #[.int .i64 (i:Int)] 3)).alloc (.cells #[.slice none 0 0] 52)) 103 [.slice A n c]
  rwa [World.size_alloc,World.size_alloc] at h
 have hB0:Below w.heap.size w (((w.alloc (.cells #[.int .i64 (i:Int)] 3)).alloc (.cells #[.slice none 0 0] 52)).alloc (.cells #[.slice A n c] 103)):=(((Below.refl _ w).alloc (Nat.le_refl _) _).alloc (by simp) _).alloc (by simp;omega) _
 have hsz:(((w.alloc (.cells #[.int .i64 (i:Int)] 3)).alloc (.cells #[.slice none 0 0] 52)).alloc (.cells #[.slice A n c] 103)).heap.size=w.heap.size+3:=by simp
 obtain⟨W0,hW0⟩:∃W0,((w.alloc (.cells #[.int .i64 (i:Int)] 3)).alloc (.cells #[.slice none 0 0] 52)).alloc (.cells #[.slice A n c] 103)=W0:=⟨_,rfl⟩
 rw [hW0] at bI bR bN hB0 hsz ⊢
 clear hW0
 refine wpIn_rangeFunc_ownH hro h1 (gf:=188) (lb:=#[.pointer (some ⟨w.heap.size+1+1,0,none⟩)]) rfl h7 (enters_of Tryz.func188 (by kernel_rfl) rfl)
  (back_stops Fn (m-1) h7 hro (by omega) (w.heap.size+1+1) A n c E hL W0 (by omega) (bN.cell rfl) H.out.len ((Keep.of_below (F:=fun _=>False) hB0).own H.out.own fun _ _ h=>h)) belowK_t (belowK_b (Nat.le_refl _)) (Below.refl _ _) (fun _=>rfl)
  (fun pre W=>(∀p ∈ pre,p.2.at_≠i)∧Below W0.heap.size W0 W)
  (fun cd pre W=>(cd=.ret∧∃ini last,pre=ini++[last]∧(∀p ∈ ini,p.2.at_≠i)∧last.2.at_=i∧Blk W (w.heap.size+1) 52 [.slice (some ⟨last.2.b,0,none⟩) 64 last.2.c])∧Below w.heap.size w W)
  (OwnFrom.and (fun _ _ _ _ hs _ _=>hs) (ownFrom_below (Nat.le_refl _) (Nat.le_refl _)))
  (fun cd=>OwnFrom.and (fun _ _ _ _ hs hg hr=>by obtain⟨hc,ini,last,e1,e2,e3,e4⟩:=hs;exact⟨hc,ini,last,e1,e2,e3,blk_kept e4 hg hr⟩) (ownFrom_below (Nat.le_refl _) (by omega)))
  ⟨by simp,Below.refl _ _⟩
  (fun x a' W=>∃Bx,w.heap.size+1<Bx∧Blk W Bx 150 x.2.cells∧a' = { tmps:=#[.pointer (some ⟨g,0,none⟩),.int .i64 (i:Int),undef,.pointer (some ⟨w.heap.size,0,none⟩),.pointer (some ⟨w.heap.size+1,0,none⟩),undef,.pointer (some ⟨Bx,0,none⟩),.pointer (some ⟨g,0,none⟩),.pointer (some ⟨g,0,none⟩),.pointer (some ⟨g,1,none⟩),.slice A n c,.func (.func 188) #[] #[.pointer (some ⟨w.heap.size+1+1,0,none⟩)],.int .i64 (x.1:Int),.agg #[.int .i64 (x.2.at_:Int),.slice (some ⟨x.2.b,0,none⟩) 64 x.2.c],undef,undef,undef,undef,undef,undef,undef,undef,undef,undef,undef,undef,undef],defers:=[] })
  (fun x a' _ X Y row hs hg hr=>by obtain⟨Bx,h1,h2,h3⟩:=hs;exact⟨Bx,h1,blk_kept h2 hg hr,h3⟩)
  ?assign ?body ?done ?stop
 case assign=>
  rintro l pre x W K ⟨hp1,hB1⟩ hK
  have hs1:=hB1.size
  simp only [enc]
  gi_wp2
  refine hK _ _ ?_ ?_ ⟨hp1,?_⟩ ⟨W.heap.size,by omega,?_,rfl⟩
  ·exact (KeepsOthers.alloc _ _).from _
  ·exact (Below.refl _ W).alloc hs1 _
  ·exact hB1.alloc hs1 _
  ·exact Blk.new W 150 x.2.cells
 case body=>
  rintro l pre x a' W hl ⟨r,hr⟩ ⟨hp1,hB1⟩ ⟨Bx,hBx,bX,rfl⟩ hlt
  have cI:=(bI.below hB1).cell (i:=0) rfl
  have bR1:=bR.below hB1
  have cR:=bR1.cell (i:=0) rfl
  have fR:=bR1.frozen 0
  have cX0:W.cell? ⟨Bx,0,none⟩=some (.int .i64 (x.2.at_:Int)):=bX.cell rfl
  have cX1:W.cell? ⟨Bx,1,none⟩=some (.slice (some ⟨x.2.b,0,none⟩) 64 x.2.c):=bX.cell rfl
  have BR1:=Hz bR1
  clear bR1
  by_cases hxi:x.2.at_=i
  ·have ht:((x.2.at_:Int)==(i:Int))=true:=by simp;omega
   have Hxi:=Hz hxi
   clear hxi
   gi_wp2
   exact⟨(KeepsOthers.setCell _ _ _).from _,⟨rfl,pre,x,rfl,hp1,Hxi.out,BR1.out.set 0 _⟩,((hB0.trans (hB1.mono hB0.size)).setCell (by simp) _)⟩
  ·have ht:((x.2.at_:Int)==(i:Int))=false:=by simp;omega
   have Hxi:=Hz hxi
   clear hxi
   gi_wp2
   exact⟨KeepsFrom.refl _ _,Below.refl _ _,fun p hp=>(List.mem_append.1 hp).elim (hp1 p) (fun e=>by simp at e;subst e;exact Hxi.out),hB1⟩
 case done=>
  rintro D ys W hD rfl ⟨hp1,hB1⟩ hK
  have cI:=(bI.below hB1).cell (i:=0) rfl
  have bR1:=bR.below hB1
  have cR:=bR1.cell (i:=0) rfl
  have fR:=bR1.frozen 0
  have hBw:=hB0.trans (hB1.mono hB0.size)
  have d0:=(hBw.cell (p:=⟨g,0,none⟩) hgw).trans c0
  have BR1:=Hz bR1
  have HBw:=Hz hBw
  have Hp1:=Hz hp1
  clear bR1 hBw hp1
  gi_wp2
  gi_region
  all_goals
   gi_wp2
   have hK':=(KeepsOthers.setCell W ⟨w.heap.size+1,0,none⟩ (.slice (some ⟨gl,i*64,none⟩) 64 64)).same D _ hK rfl
   refine⟨by simp,.inl ⟨_,_,rfl,run_takeDeferred hK',?_⟩⟩
   have hc4:=cell_kept (World.cell?_setCell_same' W ⟨w.heap.size+1,0,none⟩ (.slice (some ⟨gl,i*64,none⟩) 64 64) (by rw [cR];rfl)) (grownBy_putObj' _ D (.deferred none)) (fun r e=>by cases e;exact⟨_,hK',rfl⟩)
   have hc5:((W.setCell ⟨w.heap.size+1,0,none⟩ (.slice (some ⟨gl,i*64,none⟩) 64 64)).drew.putObj D (.deferred none)).cell? ⟨w.heap.size+1,0,none⟩=some (.slice (some ⟨gl,i*64,none⟩) 64 64):=hc4
   refine⟨.slice (some ⟨gl,i*64,none⟩) 64 64,?_,gl,i*64,64,rfl,?_,?_⟩
   ·simp [results,Tryz.f85,go_sem,hc5]
   ·rw [now_none H.out.list fun e he=>?_]
    ·exact sec_rd H.out.laid H.out.ok.sec (by rw [←HN.out];exact hi)
    ·have hm:e ∈ (upto (back E n) n).map (·.2):=by
      rw [back_rev H.out.len n (Nat.le_refl _),List.take_of_length_le (by simp [H.out.len])]
      simpa using he
     obtain⟨p,hp,rfl⟩:=List.mem_map.1 hm
     exact Hp1.out p hp
   ·exact ((HBw.out.setCell (by simp) _).drew).trans (belowK_b (w:=w) (Nat.le_refl _) _ D _ _ (by omega) hK' rfl rfl)
 case stop=>
  rintro D cd pre W hD ⟨k,hk,rfl⟩ ⟨⟨rfl,ini,last,e1,e2,e3,bR1⟩,hB1⟩ hK
  have cR:=bR1.cell (i:=0) rfl
  have E1:=Hz e1
  have E2:=Hz e2
  have E3:=Hz e3
  clear e1 e2 e3
  gi_wp2
  refine⟨by simp,.inl ⟨_,_,rfl,run_takeDeferred hK,?_⟩⟩
  have hc5:=cell_kept cR (grownBy_putObj' _ D (.deferred none)) (fun r e=>by cases e;exact⟨_,hK,rfl⟩)
  have hmap:=congrArg (List.map (·.2)) E1.out
  rw [back_rev H.out.len k hk] at hmap
  have hrev:E.reverse=ini.map (·.2)++[last.2]++E.reverse.drop k:=by
   have ht:=List.take_append_drop k E.reverse
   rw [hmap,List.map_append] at ht
   exact ht.symm
  have hmem:last.2 ∈ E:=by
   rw [←List.mem_reverse,hrev]
   simp
  refine⟨.slice (some ⟨last.2.b,0,none⟩) 64 last.2.c,?_,last.2.b,0,last.2.c,rfl,?_,?_⟩
  ·simp [results,Tryz.f85,go_sem,hc5]
  ·rw [now_some H.out.list hrev (fun x hx=>?_) E3.out]
   ·exact (H.out.ent _ hmem).1
   ·obtain⟨p,hp,rfl⟩:=List.mem_map.1 hx
    exact E2.out p hp
  ·exact hB1.trans (belowK_b (w:=w) (Nat.le_refl _) W D _ _ (by omega) hK rfl rfl)
theorem last_any (F:Nat→Prop) (g:Nat) (s:St) (i:Nat) (w:World) (hD:Dk w F g s) (hi:i<s.S.length) (hL:s.L.length≤1000000000) :
 Calls Tryz.prog 85 #[.pointer (some ⟨g,0,none⟩),.int .i64 (i:Int)] w fun e w'=>∃b o c,e=.returned (.slice (some ⟨b,o,none⟩) 64 c)∧Rd w (some ⟨b,o,none⟩) 64 c (u8n (now s i))∧Below w.heap.size w w':=by
 obtain⟨gl,A,n,c,E,h⟩:=hD
 exact callsIn_wide.1 (last_in Fence.wide 3 trivial trivial trivial rfl (by omega) F g s gl A n c E i w h hi (by rw [←h.long];exact hL))
theorem read_down (F:Nat→Prop) (g:Nat) (s:St) (i:Int) (w:World) (hD:Dk w F g s) (hi:inB s i=true) (hd:s.down=true) :
 Calls Tryz.prog 35 #[.pointer (some ⟨g,0,none⟩),.int .i64 i] w fun e w'=>e=.returned (.tuple #[.slice none 0 0,.int .i64 8])∧w=w':=by
 have HC:=fun W h=>has_any F g s i W h
 rw [hi] at HC
 have HC':=Hz HC
 have Hi:=Hz hi
 obtain⟨gl,A,n,c,E,h⟩:=hD
 obtain⟨_,_,_,c3⟩:=h.cells
 rw [hd] at c3
 have hD:=Hz (show Dk w F g s from⟨gl,A,n,c,E,h⟩)
 have Hd:=Hz hd
 clear HC hi hd h
 go_enter Tryz.func35,Tryz.ntmps35
 go_wp2_with (go_at_call 84;refine (HC'.out _ hD.out).mono ?_;rintro e w' ⟨rfl,rfl⟩)
 go_ret2
 exact⟨rfl,rfl⟩
def Told (w:World) (xs:List Nat) (e:Ending) (w':World):Prop:=
 ∃A,e=.returned (.tuple #[.slice A 64 64,.int .i64 0])∧w'.ownsRow w.heap.size 5 1 (.slice A 64 64) 64 (u8n xs)∧Below w.heap.size w w'
theorem read_ok (F:Nat→Prop) (g:Nat) (s:St) (i:Nat) (w:World) (hD:Dk w F g s) (hi:i<s.S.length) (hd:s.down=false) (hL:s.L.length≤1000000000) :
 Calls Tryz.prog 35 #[.pointer (some ⟨g,0,none⟩),.int .i64 (i:Int)] w (Told w (now s i)):=by
 obtain⟨i0,hi0,hz0,hz1,hz2⟩:=info_parts info8
 have hin:inB s i=true:=by simp [inB,hi]
 have HC:=fun W h=>has_any F g s i W h
 rw [hin] at HC
 have HC':=Hz HC
 have Hi:=Hz hin
 obtain⟨gl,A,n,c,E,h⟩:=hD
 obtain⟨_,_,_,c3⟩:=h.cells
 rw [hd] at c3
 have hD:=Hz (show Dk w F g s from⟨gl,A,n,c,E,h⟩)
 have Hd:=Hz hd
 have HL:=Hz hL
 clear HC hin hd h hL
 go_enter Tryz.func35,Tryz.ntmps35
 go_wp2_with (first
  | (go_at_call 84;refine (HC'.out _ hD.out).mono ?_;rintro e w' ⟨rfl,rfl⟩)
  | (refine wpList_make_room _ rfl _ _ 52 rfl 5 i0 (.int .u8 0) 1 Tryz.underlying52 hi0 hz0 hz1 hz2 rfl .i64 .i64 64 64 64 64 rfl rfl rfl rfl (by omega) (by omega) (by omega) ?_;intro w1 hB1 hb1 hs1)
  | (go_at_call 85;refine (last_any F g s i _ (hD.out.below hb1) hi HL.out).mono ?_;rintro e w2 ⟨b,o,c2,rfl,hR2,hb2⟩;have HR2:=Hz (hR2.below hb2);have HB2:=Hz ((show Blk w1 w.heap.size 5 (u8n (zs 64)) from by have:=hB1.out;simpa [Blk,u8n,zs] using this).below hb2))
  | (refine wpList_copy_part rfl (.tmp 21) (.tmp 24) 52 52 rfl 5 Tryz.underlying52 size8 w.heap.size 0 64 64 rfl rfl HR2.out (u8n_one _) HB2.out (by rw [u8n_len,zs_len];omega) ?_;intro w3 m hm hB3 ho3))
 go_ret2
 have hlen:(now s i).length=64:=Rd.nats HR2.out
 have hm':m=64:=hm.out
 subst hm'
 have hB4:=hB3.out
 rw [List.take_of_length_le (by rw [u8n_len,hlen];omega),splice_all (by rw [u8n_len,u8n_len,zs_len,hlen])] at hB4
 refine⟨_,rfl,?_,ho3.out.below (hb1.trans (hb2.mono hb1.size)) (Nat.le_refl _) (by have:=hb1.size;have:=hb2.size;omega)⟩
 have h':=own_of_block (base:=w.heap.size) (n:=64) (cur:=u8n (now s i)) hB4 (Nat.le_refl _) (by rw [u8n_len,hlen];omega) (by rw [u8n_len,hlen];omega)
 rw [List.take_of_length_le (by rw [u8n_len,hlen];omega),u8n_len,hlen] at h'
 exact h'
end DskD
namespace DskE
open Go.RowKit Kit Byt Mem DskA DskB DskC
def laidTo (kp:Nat→Bool) (S:List (List Nat)) (L:List (Nat×List Nat)):Nat→List (List Nat)
 | 0=>S
 | k+1=>if kp k then (laidTo kp S L k).set (L.getD k (0,[])).1 (L.getD k (0,[])).2 else laidTo kp S L k
theorem laidTo_len (kp:Nat→Bool) (S:List (List Nat)) (L:List (Nat×List Nat)) (k:Nat):(laidTo kp S L k).length=S.length:=by
 induction k with
 | zero=>rfl
 | succ k ih=>
   rw [laidTo]
   split
   ·rw [List.length_set,ih]
   ·exact ih
theorem laidTo_sec {kp:Nat→Bool} {S:List (List Nat)} {L:List (Nat×List Nat)} (hS:∀x ∈ S,x.length=64) (hL:∀p ∈ L,p.2.length=64) (k:Nat) (hk:k≤L.length):∀x ∈ laidTo kp S L k,x.length=64:=by
 induction k with
 | zero=>exact hS
 | succ k ih=>
   rw [laidTo]
   split
   ·intro x hx
    rcases List.mem_or_eq_of_mem_set hx with h|h
    ·exact ih (by omega) x h
    ·subst h
     have hk':k<L.length:=by omega
     have:L.getD k (0,[])=L[k]:=by simp [hk']
     rw [this]
     exact hL _ (List.getElem_mem _)
   ·exact ih (by omega)
def lay (kp:Nat→Bool) (s:St):St:={ s with S:=laidTo kp s.S s.L s.L.length,L:=[] }
theorem flat_len {S:List (List Nat)} (h:∀x ∈ S,x.length=64):S.flatten.length=S.length*64:=by
 induction S with
 | nil=>rfl
 | cons x S ih=>rw [List.flatten_cons,List.length_append,h x (by simp),ih fun y hy=>h y (by simp [hy])];simp;omega
theorem flat_set {S:List (List Nat)} (h:∀x ∈ S,x.length=64) {ys:List Nat} (hy:ys.length=64):∀{i:Nat},i<S.length→splice S.flatten (i*64) ys=(S.set i ys).flatten:=by
 induction S with
 | nil=>intro i hi;simp at hi
 | cons x S ih=>
   intro i hi
   have hx:=h x (by simp)
   cases i with
   | zero=>
     rw [List.set_cons_zero,List.flatten_cons,List.flatten_cons,splice,Nat.zero_mul,List.take_zero,List.nil_append,Nat.zero_add,hy,List.drop_append_of_le_length (by omega),List.drop_of_length_le (by omega),List.nil_append]
   | succ i=>
     have:=ih (fun y hy=>h y (by simp [hy])) (i:=i) (by simpa using hi)
     rw [List.set_cons_succ,List.flatten_cons,List.flatten_cons,←this,splice,splice,show (i+1)*64=x.length+i*64 by omega,List.take_length_add_append,Nat.add_assoc,List.drop_length_add_append,List.append_assoc]
theorem u8n_splice (xs ys:List Nat) (o:Nat):splice (u8n xs) o (u8n ys)=u8n (splice xs o ys):=by simp [splice,u8n]
section
variable {w w':World} {F:Nat→Prop} {g gl n c:Nat} {s:St} {A:Option Addr} {E:List Wr}
theorem At.laid_ (h:At w F g s gl A n c E) {S':List (List Nat)} (hB:Blk w' gl 160 (u8n S'.flatten)) (k:Keep (fun j=>j=gl) w w') (hl:S'.length=s.S.length) (hs:∀x ∈ S',x.length=64):At w' F g { s with S:=S' } gl A n c E:=
 ⟨by rw [show ({ s with S:=S' }:St).S.length=s.S.length from hl];exact k.blk h.head (Ne.symm h.ne),hB,k.own h.own fun i hi=>(h.fw i hi).2.2,h.list,fun e he=>by
  obtain⟨h1,h2,h3,h4,h5⟩:=h.ent e he
  exact⟨k.rd h1 fun _ b o hb=>by injection hb with hb;injection hb with hb _;exact hb▸h4,h2,h3,h4,h5⟩,
  h.fg,h.fl,h.ne,h.fw,fun i hi=>Nat.lt_of_lt_of_le (h.lt i hi) k.size,
  ⟨by rw [show ({ s with S:=S' }:St).S.length=s.S.length from hl];exact h.ok.pos,by rw [show ({ s with S:=S' }:St).S.length=s.S.length from hl];exact h.ok.most,hs,fun p hp=>by rw [show ({ s with S:=S' }:St).S.length=s.S.length from hl];exact h.ok.wait p hp,h.ok.lo,h.ok.hi⟩⟩
theorem own_cut {base size:Nat} {e:TypeId} {xs:List Value} (h:w.ownsRow base e size (.slice A n c) n xs):w.ownsRow base e size (.slice A 0 c) 0 []:=by
 refine⟨by simp,?_⟩
 rcases h.2 with⟨hv,h0⟩|⟨g,cap',cur,hv,hb,hh,hnc,hcm,hcs,_⟩
 ·simp only [Value.slice.injEq] at hv
  obtain⟨rfl,_,rfl⟩:=hv
  exact .inl ⟨rfl,rfl⟩
 ·simp only [Value.slice.injEq] at hv
  obtain⟨rfl,_,rfl⟩:=hv
  exact .inr ⟨g,c,cur,rfl,hb,hh,Nat.zero_le _,hcm,hcs,by simp⟩
theorem ob_any {n':Nat}:(Value.slice A n' c).ownBlock=(Value.slice A n c).ownBlock:=by cases A <;> rfl
theorem At.emptied {w1 w2:World} (h:At w F g s gl A n c E) (hk:Keep (fun j=>(Value.slice A n c).ownBlock=some j) w w1) {ys:List Value} (ho:w1.ownsRow 0 150 2 (.slice A n c) n ys) (hw2:w2=w1.setCell ⟨g,1,none⟩ (.slice A 0 c)):At w2 F g { s with L:=[] } gl A 0 c []:=by
 subst hw2
 have hks:=hk.size
 have hS:Keep (fun k=>k=g) w1 (w1.setCell ⟨g,1,none⟩ (.slice A 0 c)):=Keep.set _ _ _ rfl
 refine⟨(hk.blk h.head fun hk=>(h.fw g hk).2.1 rfl).set 1 _,hS.blk (hk.blk h.laid fun hk=>(h.fw gl hk).2.2 rfl) h.ne,hS.own (own_cut ho) (fun k hk=>?_),rfl,by simp,h.fg,h.fl,h.ne,fun k hk=>?_,fun k hk=>?_,⟨h.ok.pos,h.ok.most,h.ok.sec,by simp,h.ok.lo,h.ok.hi⟩⟩
 ·rw [ob_any (n:=n)] at hk
  exact (h.fw k hk).2.1
 ·rw [ob_any (n:=n)] at hk
  exact h.fw k hk
 ·have h1:=h.lt k hk
  have h2:=Nat.lt_of_lt_of_le h1 hks
  simpa [World.setCell] using h2
end
theorem zero_wr (w:World):(zeroValue 150).run Tryz.prog w=.ok (.agg #[.int .i64 0,.slice none 0 0]) w:=by kernel_rfl
theorem zero_one:∀u ∈ [Value.int .i64 0,Value.slice none 0 0],u.oneCell'=true:=by
 intro u hu
 simp only [List.mem_cons,List.not_mem_nil,or_false] at hu
 rcases hu with rfl|rfl <;> rfl
def Inv (w:World) (F:Nat→Prop) (g:Nat) (s:St) (gl:Nat) (A:Option Addr) (n c:Nat) (E:List Wr) (kp:Nat→Bool) (k:Nat) (wr:World):Prop:=
 At wr F g { s with S:=laidTo kp s.S s.L k } gl A n c E∧Keep (fun j=>j=gl) w wr
theorem ent_at {w:World} {F:Nat→Prop} {g gl n c:Nat} {s:St} {A:Option Addr} {E:List Wr} (h:At w F g s gl A n c E) {k:Nat} (hk:k<n) (_kp:Nat→Bool) :
 ∃e b,e ∈ E∧s.L.getD k (0,[])=(e.at_,e.bs)∧A=some ⟨b,0,none⟩∧w.cell? ⟨b,k*2,none⟩=some (.int .i64 (e.at_:Int))∧w.cell? ⟨b,k*2+1,none⟩=some (.slice (some ⟨e.b,0,none⟩) 64 e.c):=by
 have hE:=h.len
 obtain⟨b,hA,_,_⟩:=own_some h.own (by omega)
 have hw:=wc_at (E:=E) (k:=k) (by omega)
 subst hA
 refine⟨E[k],b,List.getElem_mem _,?_,rfl,?_,?_⟩
 ·rw [h.list];simp [hE,hk]
 ·rw [h.own.cellAt _ (by omega),Nat.mul_comm,hw.1]
 ·rw [h.own.cellAt _ (by omega),Nat.mul_comm,hw.2]
theorem Inv.take {w wr w3:World} {F:Nat→Prop} {g gl n c:Nat} {s:St} {A:Option Addr} {E:List Wr} {kp:Nat→Bool} {k:Nat} {e:Wr} (h:Inv w F g s gl A n c E kp k wr) (hk:kp k=true) (he:s.L.getD k (0,[])=(e.at_,e.bs)) (hkl:k<s.L.length) {o:Obj}
 (hB:Blk w3 gl 160 (splice (u8n (laidTo kp s.S s.L k).flatten) (e.at_*64) (u8n e.bs))) (ho:Only gl (wr.alloc o).drew w3):Inv w F g s gl A n c E kp (k+1) w3:=by
 have hK:Keep (fun j=>j=gl) wr w3:=((Keep.of_below ((Below.refl _ _).alloc (Nat.le_refl _) o)).drew).trans (Keep.only (F:=fun j=>j=gl) ho rfl) fun _ h=>.inl h
 have hm:s.L.getD k (0,[]) ∈ s.L:=by
  have:s.L.getD k (0,[])=s.L[k]:=by simp [hkl]
  rw [this]
  exact List.getElem_mem _
 have hw:=h.1.ok.wait _ hm
 rw [he] at hw
 have hS:=h.1.ok.sec
 have hl1:e.bs.length=64:=hw.2
 have hl2:e.at_<(laidTo kp s.S s.L k).length:=hw.1
 refine⟨?_,h.2.trans hK fun _ h=>.inl h⟩
 rw [laidTo,if_pos hk,he]
 rw [u8n_splice,flat_set hS hl1 hl2] at hB
 refine At.laid_ (s:={ s with S:=laidTo kp s.S s.L k }) h.1 hB hK (by simp) fun x hx=>?_
 rcases List.mem_or_eq_of_mem_set hx with hx|hx
 ·exact hS x hx
 ·subst hx;exact hl1
theorem Inv.done {w wr w1:World} {F:Nat→Prop} {g gl n c:Nat} {s:St} {A:Option Addr} {E:List Wr} {kp:Nat→Bool} (h:Inv w F g s gl A n c E kp n wr) (hn:s.L.length=n) {ys:List Value} (ho:w1.ownsRow 0 150 2 (.slice A n c) n ys) (hg:wr.grownBy w1 (Value.slice A n c).ownBlock) :
 Got F g w (.tuple #[]) (lay kp s) (.returned (.tuple #[])) (w1.setCell ⟨g,1,none⟩ (.slice A 0 c)):=by
 have hk:Keep (fun j=>(Value.slice A n c).ownBlock=some j) wr w1:=Keep.grown hg fun _ h=>h
 have h2:=At.emptied h.1 hk ho rfl
 refine⟨rfl,F,⟨gl,A,0,c,[],?_⟩,?_,fun k hk=>.inl hk⟩
 ·rw [lay,hn]
  exact h2
 ·exact ((h.2.mono fun j _ hj=>hj▸h.1.fl).trans (hk.mono (G:=F) fun j _ hj=>(h.1.fw j hj).1) fun _ h=>.inl h).trans (Keep.set (F:=F) _ _ _ h.1.fg) fun _ h=>.inl h
theorem fit {S0:List (List Nat)} {L:List (Nat×List Nat)} {kp:Nat→Bool} {k i:Nat} (h:∀x ∈ laidTo kp S0 L k,x.length=64) (hi:i<S0.length):i*64+64≤(u8n (laidTo kp S0 L k).flatten).length:=by
 rw [u8n_len,flat_len h,laidTo_len]
 omega
theorem blk_done {w wr w4:World} {F:Nat→Prop} {g gl n c k:Nat} {s:St} {A:Option Addr} {E:List Wr} {kp:Nat→Bool} (h:Inv w F g s gl A n c E kp k wr) (hg:wr.grownBy w4 (Value.slice A n c).ownBlock):w4.cell? ⟨g,1,none⟩=some (.slice A n c)∧w4.frozen? ⟨g,1,none⟩=false:=by
 have hk:Keep (fun j=>(Value.slice A n c).ownBlock=some j) wr w4:=Keep.grown hg fun _ h=>h
 have hB:=hk.blk h.1.head fun hk=>(h.1.fw g hk).2.1 rfl
 exact⟨hB.cell rfl,hB.frozen 1⟩
def kb (K k:Nat):Bool:=decide (K/2 ^ k%2=1)
theorem lay_all (F:Nat→Prop) (g:Nat) (s:St) (w:World) (hD:Dk w F g s) (hL:s.L.length≤1000000000) :
 Calls Tryz.prog 51 #[.pointer (some ⟨g,0,none⟩),.func (.func 208) #[] #[]] w (Got F g w (.tuple #[]) (lay (fun _=>true) s)):=by
 obtain⟨gl,A,n,c,E,h⟩:=hD
 obtain⟨_,c1,_,_⟩:=h.cells
 have hlen:=Hz h.long
 have hn:n≤1000000000:=by rw [←h.long];exact hL
 have hg:=h.lt g h.fg
 have H:=Hz h
 clear h hL
 go_enter Tryz.func51,Tryz.ntmps51
 go_wp2
 go_loopw [11] (fun i wr=>∃k:Nat,k≤n∧i=.int .i64 k∧Hid (Inv w F g s gl A n c E (fun _=>true) k wr)) (fun i _=>n-(intOf i).toNat)
 case atStart=>exact⟨0,Nat.zero_le _,rfl,H.out,Keep.refl _ _⟩
 case round=>
  obtain⟨k,hk,rfl,HI⟩:=hrel
  obtain⟨d0,d1,_,_⟩:=HI.out.1.cells
  have hgr:=HI.out.1.lt g HI.out.1.fg
  by_cases hlt:k<n
  ·obtain⟨e,b,he,heq,hA,g0,g1⟩:=ent_at HI.out.1 hlt (fun _=>true)
   subst hA
   have HE:=Hz heq
   have HM:=Hz he
   clear heq he
   have hat:e.at_<s.S.length:=by
    have:=HI.out.1.ok.wait (e.at_,e.bs) (by rw [←HE.out,show s.L.getD k (0,[])=s.L[k]'(by rw [hlen.out];exact hlt) from by simp [hlen.out,hlt]];exact List.getElem_mem _)
    have h2:=this.1
    simpa [laidTo_len] using h2
   have hmo:=H.out.ok.most
   simp only [laidTo_len] at d0
   obtain⟨N,hN⟩:∃N,N=s.S.length:=⟨_,rfl⟩
   rw [←hN] at hat hmo d0
   have HN:=Hz hN
   clear hN
   go_wp2_with (go_at_call 208;refine (all_any _ _).mono ?_;rintro e w3 ⟨rfl,rfl⟩)
   have m0:=((Below.refl wr.heap.size wr).alloc (Nat.le_refl _) (.cells #[.int .i64 (e.at_:Int),.slice (some ⟨e.b,0,none⟩) 64 e.c] 150)).cell (p:=⟨g,0,none⟩) hgr |>.trans d0
   have mR:=Hz (Rd.alloc (HI.out.1.ent e HM.out).1 (.cells #[.int .i64 (e.at_:Int),.slice (some ⟨e.b,0,none⟩) 64 e.c] 150))
   have mB:=Hz (Blk.alloc HI.out.1.laid (.cells #[.int .i64 (e.at_:Int),.slice (some ⟨e.b,0,none⟩) 64 e.c] 150))
   have p0:(0:Int)≤(e.at_:Int):=by omega
   have p1:(e.at_:Int)<(N:Int):=by omega
   have hbx:=Blk.new wr 150 [.int .i64 (e.at_:Int),.slice (some ⟨e.b,0,none⟩) 64 e.c]
   obtain⟨wa,hwa⟩:∃wa,wa=wr.alloc (.cells #[.int .i64 (e.at_:Int),.slice (some ⟨e.b,0,none⟩) 64 e.c] 150):=⟨_,rfl⟩
   rw [←hwa] at m0 mR mB hbx ⊢
   have HWA:=Hz hwa
   clear hwa
   have b0:wa.cell? ⟨wr.heap.size,0,none⟩=some (.int .i64 (e.at_:Int)):=hbx.cell rfl
   have b1:wa.cell? ⟨wr.heap.size,1,none⟩=some (.slice (some ⟨e.b,0,none⟩) 64 e.c):=hbx.cell rfl
   clear hbx d0 d1
   go_still_tail 10,(by kernel_rfl)
   change wpList _ _ _ _ _ (World.drew _)
   refine wpList_copy_part rfl (.tmp 26) (.tmp 28) 52 52 rfl 5 Tryz.underlying52 size8 gl (e.at_*64) 64 64 rfl rfl (show Rd (World.drew _) _ _ _ _ from mR.out) (u8n_one _) (show Blk (World.drew _) _ _ _ from mB.out) (fit HI.out.1.ok.sec (by rw [←HN.out];exact hat)) ?_
   intro w5 m hm hB5 ho5
   clear m0 p0 p1 b0 b1
   go_wp2
   go_roundw
   case rel=>
    have hm':m=64:=hm.out
    subst hm'
    have hB6:=hB5.out
    rw [List.take_of_length_le (by rw [u8n_len,Rd.nats mR.out];omega)] at hB6
    exact⟨k+1,by omega,by go_num,Inv.take HI.out rfl HE.out (by rw [hlen.out];exact hlt) hB6 (by rw [←HWA.out];exact ho5.out)⟩
   case measure=>simp [intOf];omega
  ·obtain rfl:k=n:=by omega
   have fz:=fun w4 ys (h4:w4.ownsRow 0 150 2 (.slice A k c) k ys) (hg:wr.grownBy w4 (Value.slice A k c).ownBlock)=>blk_done HI.out hg
   have Fz:=Hz fz
   clear fz
   go_wp2_with (refine wpList_clear_own rfl (.tmp 34) 103 150 rfl _ Tryz.underlying103 zero_wr rfl zero_one rfl rfl HI.out.1.own ?_;intro w4 ys ho4 hg4 hs4;have HG4:=Hz hg4;obtain⟨k4,f4⟩:=Fz.out w4 ys ho4.out hg4;clear hg4)
   go_end0
   exact HI.out.done hlen.out ho4.out HG4.out
theorem Got.trans {w w1 w2:World} {F F1:Nat→Prop} {g:Nat} {v:Value} {s:St} {e:Ending} (hk:Keep F w w1) (hf:∀k,F1 k→F k∨w.heap.size≤k) (h:Got F1 g w1 v s e w2):Got F g w v s e w2:=by
 obtain⟨he,F2,hD,hk2,hf2⟩:=h
 refine⟨he,F2,hD,hk.trans hk2 hf,fun k h=>?_⟩
 rcases hf2 k h with h|h
 ·exact hf k h
 ·exact .inr (Nat.le_trans hk.size h)
theorem spend_sl (s:St):(spend s).2.L=s.L∧(spend s).2.S=s.S:=by
 unfold spend
 split
 ·exact⟨rfl,rfl⟩
 ·split
  ·exact⟨rfl,rfl⟩
  ·dsimp only
   split <;> exact⟨rfl,rfl⟩
theorem flush_down (F:Nat→Prop) (g:Nat) (s:St) (w:World) (hD:Dk w F g s) (hs:(spend s).1=false):Calls Tryz.prog 168 #[.pointer (some ⟨g,0,none⟩)] w (Got F g w (.int .i64 8) (spend s).2):=by
 have HS:=fun W h=>spend_any F g s W h
 rw [hs] at HS
 have HS':=Hz HS
 have Hs:=Hz hs
 clear HS hs
 go_enter Tryz.func168,Tryz.ntmps168
 go_wp2_with (go_at_call 86;refine (HS'.out _ hD).mono ?_;rintro e w' ⟨rfl,F1,hD1,hk1,hf1⟩)
 go_ret
 exact⟨rfl,F1,hD1,hk1,hf1⟩
theorem flush_ok (F:Nat→Prop) (g:Nat) (s:St) (w:World) (hD:Dk w F g s) (hs:(spend s).1=true) (hL:s.L.length≤1000000000) :
 Calls Tryz.prog 168 #[.pointer (some ⟨g,0,none⟩)] w (Got F g w (.int .i64 0) (lay (fun _=>true) (spend s).2)):=by
 have HS:=fun W h=>spend_any F g s W h
 rw [hs] at HS
 have HS':=Hz HS
 have hL1:(spend s).2.L.length≤1000000000:=by rw [(spend_sl s).1];exact hL
 obtain⟨s1,hs1⟩:∃s1,s1=(spend s).2:=⟨_,rfl⟩
 rw [←hs1] at hL1 HS' ⊢
 have HL:=Hz hL1
 clear HS hs hs1 hL1 hL
 go_enter Tryz.func168,Tryz.ntmps168
 go_wp2_with (first
  | (go_at_call 86;refine (HS'.out _ hD).mono ?_;rintro e w1 ⟨rfl,F1,hD1,hk1,hf1⟩)
  | (go_at_call 51;refine (lay_all F1 g s1 _ hD1 HL.out).mono ?_;rintro e w2 ⟨rfl,F2,hD2,hk2,hf2⟩))
 go_ret
 exact Got.trans hk1 hf1 ⟨rfl,F2,hD2,hk2,hf2⟩
def power (K:Nat) (s:St):St:={ lay (kb K) s with fuse:=-1,down:=false }
end DskE
end Go.Proofs.YtkepomnbhnnliaaGreatDoor
