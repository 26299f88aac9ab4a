/- Parts of the proof, each under the conditions that it names. -/
import Derived.Test.YtpidbddllnidhaaGreatDoorChecked
import Derived.WalkKit
import Derived.WalkSpells
import Derived.WalkLawsBesides
import Derived.WalkSmall
import Derived.OpenShut
import Derived.Deep.QuietTactic
import Derived.BigQuiet
import Derived.Maps.AppendAt
import Derived.Laws.CopyOwn
import Derived.Deep.AppendLies
import Derived.Deep.DeepCutAuto
import Derived.Lib.SlBytesConst
import Derived.Lib.Hide
import Derived.Deep.Matrix
import Derived.Deep.MidRow
import Derived.Laws.CopyRow
import Derived.Deep.RegionLaw
import Derived.RangeFuncNested
import Derived.RangeFuncLeaves
import Derived.Shelf.Abstract
import Derived.OwnWalkIn
import Derived.TacticsInMore
import Derived.LoopNIn
import Derived.LoopIn
import Derived.BigRegionIn
import Derived.StillTailTactics
import Derived.Laws.Bits64b
import Derived.Deep.Slices
import Derived.Deep.Fields
import Derived.WideShapes
set_option maxRecDepth 100000
set_option maxHeartbeats 12800000
namespace Go.Proofs.YtpidbddllnidhaaGreatDoor
open Go.RowKit
abbrev Mr:=@Nat.le_refl
abbrev Mb:=@RowKit.Below.refl
abbrev Mg:=@List.getD_eq_getElem?_getD
abbrev Mc_:=@Classical.byContradiction
abbrev Mq:=@List.getElem?_eq_getElem
abbrev Mt:=@List.take_of_length_le
abbrev Ml:=@Nat.le_trans
abbrev Ms:=@World.size_alloc
abbrev Mw:=@Nat.lt_of_lt_of_le
abbrev Mi_:=@IntKind.wrap_i64
abbrev Ma:=@List.length_append
abbrev Me_:=@List.getElem_mem
abbrev Mk_:=@List.length_take
abbrev Bw (a b:World):Prop:=RowKit.Below a.heap.size a b
theorem _root_.Go.RowKit.Hid.o {p:Prop} (h:RowKit.Hid p):p:=h.out
theorem tq:(∀(a:Act) (d:Tmp) (v:Value),a.put (some d) v={a with tmps:=a.tmps.setIfInBounds d v})∧(∀(a:Act) (v:Value),a.put none v=a)∧(∀{α:Type} (l:List α) (i:Nat) (h:i<l.toArray.size),l.toArray[i]=l[i]'(by simpa using h))∧(∀{α:Type} (a:α) (l:List α) (i:Nat) (h:i+1<(a::l).length),(a::l)[i+1]=l[i]'(by simpa using h))∧(∀{α:Type} (a:α) (l:List α) (h:0<(a::l).length),(a::l)[0]=a)∧(∀{α:Type} (l:List α) (i:Nat) (a:α),l.toArray.setIfInBounds i a=(l.set i a).toArray)∧(∀{α:Type} (x:α) (l:List α) (a:α),(x::l).set 0 a=a::l)∧(∀{α:Type} (x:α) (l:List α) (n:Nat) (a:α),(x::l).set (n+1) a=x::l.set n a):=
 ⟨fun _ _ _=>rfl,fun _ _=>rfl,fun _ _ _=>by simp,fun _ _ _ _=>rfl,fun _ _ _=>rfl,fun _ _ _=>by simp,fun _ _ _=>rfl,fun _ _ _ _=>rfl⟩
theorem Hz {p:Prop} (h:p):RowKit.Hid p:=Lib.hid h
theorem sK {P:Program} {ops:Array Oper} {Q:Exit→Act→World→Prop} {md:Region.Mode} {i:Nat} {oi:Oper} {v:Value} {fuel:Nat} {listed:Array Bool} {a:Act} {w:World} (hi:ops[i]? = some oi)
 (h:wpAny P md ops Q fuel (listed.setIfInBounds i true) (a.put oi.dst v) w) (hs:Region.noSelect ops=true:=by kernel_rfl) (hf:Region.free md ops listed i=true:=by kernel_rfl) (hr:(Region.ready md ops listed).contains i=true:=by kernel_rfl)
 (hQ:∀c a w,Q (.panic c) (a.put oi.dst v) w→Q (.panic c) a w:=by exact fun _ _ _ h=>h) (hy:Yields P ops oi v a:=by exact Or.inr ⟨by rfl,rfl⟩):wpAny P md ops Q (fuel+1) listed a w:=wpAny_take hi hs hf hr hQ hy h
theorem sL {P:Program} {ops:Array Oper} {Q:Exit→Act→World→Prop} {md:Region.Mode} {i:Nat} {oi:Oper} {v:Value} {fuel:Nat} {listed:Array Bool} {a:Act} {w:World} (hi:ops[i]? = some oi)
 (h:wpAny P md ops Q fuel (listed.setIfInBounds i true) (a.put oi.dst v) w) (hs:Region.noSelect ops=true:=by kernel_rfl) (hf:Region.free md ops listed i=true:=by kernel_rfl) (hr:(Region.ready md ops listed).contains i=true:=by kernel_rfl)
 (hQ:∀c a w,Q (.panic c) (a.put oi.dst v) w→Q (.panic c) a w:=by exact fun _ _ _ h=>h) (hy:Yields P ops oi v a:=by exact Or.inl ⟨by rfl,fun w=>(by first | rfl | (go_simp;done) | (go_simp;omega))⟩):wpAny P md ops Q (fuel+1) listed a w:=wpAny_take hi hs hf hr hQ hy h
namespace Kit
theorem Qg {k:IntKind} {a b:Int} (h:a=b):Ending.returned (.int k a)=.returned (.int k b):=by rw [h]
theorem Q3 {a b:Bool} (h:a=b):Ending.returned (.bool a)=.returned (.bool b):=by rw [h]
def Rd (w:World) (A:Option Addr) (n c:Nat) (xs:List Value):Prop:=
 xs.length=n∧n≤c∧c≤9223372036854775807∧(0<n→∃b o,A=some ⟨b,o,none⟩∧b<w.heap.size∧∀j u,xs[j]?=some u→w.cell? ⟨b,o+j,none⟩=some u)
section
variable {w w':World} {A:Option Addr} {n c:Nat} {xs:List Value}
theorem Rd.len (h:Rd w A n c xs):xs.length=n:=h.1
theorem Rd.le (h:Rd w A n c xs):n≤c:=h.2.1
theorem Rd.cap (h:Rd w A n c xs):c≤9223372036854775807:=h.2.2.1
theorem Rd.same (h:Rd w A n c xs) (hs:w.heap.size≤w'.heap.size) (hc:∀p:Addr,p.block<w.heap.size→w'.cell? p=w.cell? p):Rd w' A n c xs:=
 ⟨h.1,h.2.1,h.2.2.1,fun hp=>by
  obtain⟨b,o,hA,hb,hj⟩:=h.2.2.2 hp
  exact⟨b,o,hA,by omega,fun j u hu=>(hc ⟨b,o+j,none⟩ hb).trans (hj j u hu)⟩⟩
theorem Rd.below (h:Rd w A n c xs) (hb:Bw w w'):Rd w' A n c xs:=h.same hb.size fun _ hp=>hb.cell hp
theorem Rd.alloc (h:Rd w A n c xs) (o:Obj):Rd (w.alloc o) A n c xs:=h.below ((Mb _ _).alloc (Mr _) o)
theorem Rd.drewN (h:Rd w A n c xs) (k:Nat):Rd (w.drewN k) A n c xs:=h
theorem Rd.nil (w:World):Rd w none 0 0 []:=⟨by simp,by omega,by omega,fun h=>absurd h (by simp)⟩
theorem Rd.empty (w:World) (A:Option Addr) {c:Nat} (hc:c≤9223372036854775807):Rd w A 0 c []:=⟨by simp,by omega,hc,fun h=>absurd h (by simp)⟩
theorem Rd.at_ (h:Rd w A n c xs) {k:Nat} (hk:k<n):∃b o,A=some ⟨b,o,none⟩∧w.cell? ⟨b,o+k,none⟩=some (xs[k]'(by rw [h.1];exact hk)):=by
 obtain⟨b,o,hA,_,hj⟩:=h.2.2.2 (by omega)
 exact⟨b,o,hA,hj k _ (Mq (by rw [h.1];exact hk))⟩
theorem Rd.grown {row:Option Nat} (h:Rd w A n c xs) (hg:w.grownBy w' row) (hr:∀g,row=some g→∀b o,A=some ⟨b,o,none⟩→b≠g):Rd w' A n c xs:=
 ⟨h.1,h.2.1,h.2.2.1,fun hp=>by
  obtain⟨b,o,hA,hb,hj⟩:=h.2.2.2 hp
  refine⟨b,o,hA,by have:=hg.size;omega,fun j u hu=>?_⟩
  refine (World.cell?_of_block (hg.block b hb ?_)).trans (hj j u hu)
  intro he
  exact hr b he.symm b o hA rfl⟩
theorem Rd.own {base:Nat} {e:TypeId} (h:w.ownsRow base e 1 (.slice A n c) n xs):Rd w A n c xs:=by
 have hl:xs.length=n:=by simpa using h.1
 rcases h.2 with⟨hv,h0⟩|⟨g,cap',cur,hv,_,hh,hnc,hcm,_,_⟩
 ·simp only [Value.slice.injEq] at hv
  obtain⟨rfl,rfl,rfl⟩:=hv
  exact⟨by omega,by omega,by omega,fun h=>by omega⟩
 ·simp only [Value.slice.injEq] at hv
  obtain⟨rfl,_,rfl⟩:=hv
  unfold maxLen at hcm
  refine⟨hl,by omega,by omega,fun _=>⟨g,0,rfl,lt_of_block hh,fun j u hu=>?_⟩⟩
  have:=h.cells (g:=g) rfl j u hu
  simpa [Addr.add_lit] using this
theorem Rd.take (h:Rd w A n c xs) {k:Nat} (hk:k≤n):Rd w A k c (xs.take k):=
 ⟨by have:=h.1;simp;omega,by have:=h.2.1;omega,h.2.2.1,fun hp=>by
  obtain⟨b,o,hA,hb,hj⟩:=h.2.2.2 (by omega)
  exact⟨b,o,hA,hb,fun j u hu=>hj j u (by
   rw [List.getElem?_take] at hu
   split at hu
   ·exact hu
   ·cases hu)⟩⟩
theorem Rd.src (h:Rd w A n c xs) (hb:Bw w w') (h0:0<xs.length):∃ad,A=some ad∧∀j v,xs[j]?=some v→w'.cell? (ad.add j)=some v:=by
 obtain⟨b,o,hA,_,hj⟩:=(h.below hb).2.2.2 (by have:=h.1;omega)
 exact⟨_,hA,fun j v hv=>by rw [Addr.add_lit];exact hj j v hv⟩
end
section
variable {P:Program} {ops:Array Oper} {rest:List Oper} {o:Oper} {a:Act} {Q:Exit→Act→World→Prop}
theorem Qx (w:World) (hg:o.guard=none) (l c:Operand) (t:TypeId) (hop:o.op=Op.makeSlice t l c)
 (e:TypeId) (i:TypeInfo) (z:Value) (bytes:Nat) (h1:P.underlying t=some (.slice e)) (h2:P.info? e=some i) (h3:i.zero=some z) (h4:i.size=1) (h5:i.bytes=bytes) (hz:z.cells = #[z])
 (kl kc:IntKind) (L C:Int) (m n:Nat) (hl:a.eval l=.int kl L) (hc:a.eval c=.int kc C) (hL:L=(m:Int)) (hC:C=(n:Int)) (hmn:m≤n) (b2:bytes*n≤281474976710656) (b3:n≤9223372036854775807)
 (hK:∀w',Hid (w'.heap[w.heap.size]?=some (.cells (List.replicate n z).toArray e (0,0)))→Bw w w'→w'.heap.size=w.heap.size+1→
   wpList P ops Q rest (a.put o.dst (.slice (some ⟨w.heap.size,0,none⟩) m n)) w') :
 wpList P ops Q (o :: rest) a w:=by
 refine wpList_plain hg fun K hK'=>?_
 subst hL hC h5
 have hb':(i.bytes:Int)*(n:Int)≤281474976710656:=by
  have h:((i.bytes*n:Nat):Int)≤281474976710656:=by omega
  rwa [Int.natCast_mul] at h
 have hrun:=run_make (P:=P) w t e i z h1 h2 h3 kl kc m n (by omega) (by omega) hb' (by omega)
 simp only [Int.toNat_natCast,h4,Nat.mul_one,hz] at hrun
 have hm:madeCells #[z] n=(List.replicate n z).toArray:=by
  apply Array.ext'
  rw [toList_madeCells_one]
 rw [hm] at hrun
 unfold Oper.wp
 simp [execOp,hop,hl,hc,hrun,Result.andThen]
 refine hK' _ _ (hK _ ?_ ((Mb _ _).alloc (Mr _) _) (by simp))
 exact heap_alloc_new w _
theorem Q0 {w:World} {g:Nat} {cur:List Value} {e:TypeId} (h:w.heap[g]?=some (.cells cur.toArray e (0,0))) {base n:Nat} (hb:base≤g) (hn:n≤cur.length) (hm:cur.length≤9223372036854775807) :
 w.ownsRow base e 1 (.slice (some ⟨g,0,none⟩) n cur.length) n (cur.take n):=
 ⟨by simp;omega,.inr ⟨g,cur.length,cur.toArray,rfl,hb,h,hn,by unfold maxLen;omega,by simp,by simp⟩⟩
theorem run_add (w:World) (base:Nat) (t ty e:TypeId) (i:TypeInfo) (z:Value) (bytes:Nat) (ht:P.underlying t=some (.slice e)) (hi:P.info? e=some i) (hz:i.zero=some z)
 (hsize:i.size=1) (hby:i.bytes=bytes) (hzs:z.cells = #[z])
 (v:Value) (n:Nat) (xs:List Value) (hown:w.ownsRow base e 1 v n xs)
 (A:Option Addr) (m c:Nat) (news:List Value) (hr:Rd w A m c news) (h1:∀u ∈ news,u.oneCell'=true)
 (h63:n+m≤9223372036854775807) (hbytes:(n+m)*bytes≤140737488355328) (hbase:base≤w.heap.size) :
 ∃v' w',(Builtin.append_ #[t,t] ty #[v,.slice A m c]).run P w=.ok v' w'∧w'.ownsRow base e 1 v' (n+m) (xs++news)∧w.grownBy w' v.ownBlock∧
  (v'.ownBlock=v.ownBlock∨v'.ownBlock=some w.heap.size):=by
 rcases A with _|ad
 ·have h0:m=0:=by
   rcases Nat.eq_zero_or_pos m with h|h
   ·exact h
   ·obtain⟨b,o,hA,_⟩:=hr.2.2.2 h
    cases hA
  subst h0
  have h0:news=[]:=List.eq_nil_of_length_eq_zero hr.1
  subst h0
  have hrun:(Builtin.append_ #[t,t] ty #[v,.slice none 0 c]).run P w=.ok v w:=by
   rcases hown.2 with⟨rfl,_⟩|⟨g,cap,cur,rfl,_,_,hnc,_⟩
   ·simp [Builtin.append_,run_underlying ht,sizeOf,typeInfo,hi,Builtin.lenOf,Builtin.firstCells]
   ·simp [Builtin.append_,run_underlying ht,sizeOf,typeInfo,hi,Builtin.lenOf,Builtin.firstCells,hnc,storeCells]
  exact⟨v,w,hrun,by simpa using hown,World.grownBy.refl w _,.inl rfl⟩
 ·have hcells:∀j u,news[j]?=some u→w.cell? (ad.add j)=some u:=by
   intro j u hu
   have hp:0<news.length:=by have:=(List.getElem?_eq_some_iff.1 hu).1;omega
   obtain⟨b,o,hA,_,hc⟩:=hr.2.2.2 (by have:=hr.1;omega)
   injection hA with hA
   subst hA
   rw [Addr.add_lit]
   exact hc j u hu
  obtain⟨v',w',hrun,h2,h3,_,h5⟩:=run_append_own_at (P:=P) w base t ty e i z 1 bytes ht hi hz hsize hby (by rw [hzs];rfl) (by omega) v n xs hown ad m c news (by rw [hr.1];simp) hcells h1 (by unfold maxLen;omega) hbytes hbase
  exact⟨v',w',hrun,h2,h3,h5⟩
theorem wp_add {K:Act→World→Prop} (w:World) (s x:Operand) (t:TypeId)
 (ho:o.op=.call { callee:=.builtin .append,args:=#[s,x],argTypes:=#[t,t] })
 (base:Nat) (e:TypeId) (i:TypeInfo) (z:Value) (bytes:Nat) (ht:P.underlying t=some (.slice e)) (hi:P.info? e=some i) (hz:i.zero=some z)
 (hsize:i.size=1) (hby:i.bytes=bytes) (hzs:z.cells = #[z])
 (v:Value) (n:Nat) (xs:List Value) (hs:a.eval s=v) (hown:w.ownsRow base e 1 v n xs)
 (A:Option Addr) (m c:Nat) (news:List Value) (hx:a.eval x=.slice A m c) (hr:Rd w A m c news) (h1:∀u ∈ news,u.oneCell'=true)
 (h63:n+m≤9223372036854775807) (hbytes:(n+m)*bytes≤140737488355328) (hbase:base≤w.heap.size)
 (h:∀v' w',w'.ownsRow base e 1 v' (n+m) (xs++news)→w.grownBy w' v.ownBlock→(v'.ownBlock=v.ownBlock∨v'.ownBlock=some w.heap.size)→K (a.put o.dst v') w'):o.wp P a w K Q:=by
 obtain⟨v',w',hrun,h2,h3,h4⟩:=run_add (P:=P) w base t o.type e i z bytes ht hi hz hsize hby hzs v n xs hown A m c news hr h1 h63 hbytes hbase
 unfold Oper.wp execOp
 simp only [ho,resolve,invoke,builtin,Sem.run_bind,Sem.run_pure,Result.andThen_ok,List.map_toArray,List.map_cons,List.map_nil,hs,hx,hrun]
 exact h v' w' h2 h3 h4
theorem Qu (w:World) (hgd:o.guard=none) (s x:Operand) (t:TypeId)
 (ho:o.op=.call { callee:=.builtin .append,args:=#[s,x],argTypes:=#[t,t] })
 (base:Nat) (e:TypeId) (i:TypeInfo) (z:Value) (bytes:Nat) (ht:P.underlying t=some (.slice e)) (hi:P.info? e=some i) (hz:i.zero=some z)
 (hsize:i.size=1) (hby:i.bytes=bytes) (hzs:z.cells = #[z])
 (v:Value) (n:Nat) (xs:List Value) (hs:a.eval s=v) (hown:w.ownsRow base e 1 v n xs)
 (A:Option Addr) (m c:Nat) (news:List Value) (hx:a.eval x=.slice A m c) (hr:Rd w A m c news) (h1:∀u ∈ news,u.oneCell'=true)
 (h63:n+m≤9223372036854775807) (hbytes:(n+m)*bytes≤140737488355328) (hbase:base≤w.heap.size)
 (h:∀A' n' c' w',Hid (n'=n+m)→w'.ownsRow base e 1 (.slice A' n' c') n' (xs++news)→w.grownBy w' v.ownBlock→((Value.slice A' n' c').ownBlock=v.ownBlock∨(Value.slice A' n' c').ownBlock=some w.heap.size)→wpList P ops Q rest (a.put o.dst (.slice A' n' c')) w'):wpList P ops Q (o :: rest) a w:=
 wpList_plain hgd fun _ hK=>wp_add w s x t ho base e i z bytes ht hi hz hsize hby hzs v n xs hs hown A m c news hx hr h1 h63 hbytes hbase fun v' w' h2 h3 h4=>by
  have h5:=h2
  rcases h5.2 with⟨rfl,h0⟩|⟨g,cap,cur,rfl,_⟩
  ·exact hK _ _ (h none 0 0 w' h0.symm (by rw [h0] at h2;exact h2) h3 h4)
  ·exact hK _ _ (h _ _ _ w' rfl h2 h3 h4)
end
theorem below_add {w0 w w':World} {v:Value} {base:Nat} {e:TypeId} {n:Nat} {xs:List Value} (hb:Bw w0 w) (hown:w.ownsRow base e 1 v n xs) (hbase:w0.heap.size≤base) (hg:w.grownBy w' v.ownBlock):Bw w0 w':=
 hb.grown hg hb.size fun k hk=>by have:=hown.lt k hk;omega
theorem own_below {w w':World} {v:Value} {base:Nat} {e:TypeId} {n:Nat} {xs:List Value} (h:w.ownsRow base e 1 v n xs) (hb:Bw w w'):w'.ownsRow base e 1 v n xs:=
 h.kept (row:=none) ⟨hb.os,hb.tape,hb.output,hb.size,fun k hk _=>hb.block k hk⟩ (by
  rcases hv:v.ownBlock with _|g
  ·exact .inl rfl
  ·exact .inr (by simp))
theorem emptied (w:World) (e:TypeId):(w.alloc (.cells #[] e)).ownsRow w.heap.size e 1 (.slice (some ⟨w.heap.size,0,none⟩) 0 0) 0 []:=by
 have h:=Q0 (w:=w.alloc (.cells #[] e)) (g:=w.heap.size) (cur:=[]) (e:=e) (base:=w.heap.size) (n:=0) (heap_alloc_new w _) (Mr _) (by simp) (by simp)
 simpa using h
theorem size_alloc (w:World) (o:Obj):w.heap.size≤(w.alloc o).heap.size:=((Mb w.heap.size w).alloc (Mr _) o).size
theorem new_one (w:World) (v:Value) (t:TypeId):∀j u,[v][j]?=some u→(w.alloc (.cells #[v] t)).cell? ((⟨w.heap.size,0,none⟩:Addr).add j)=some u:=by
 intro j u hj
 match j,hj with
 | 0,hj=>
   simp at hj
   subst hj
   rw [Addr.add_lit,cell_of_row _ _ _ _ _ _ (heap_alloc_new w _)]
   rfl
end Kit
namespace Byt
open Kit
def u8n (xs:List Nat):List Value:=xs.map fun n:Nat=>Value.int .u8 (n:Int)
theorem u8n_one (xs:List Nat):∀u ∈ u8n xs,u.oneCell'=true:=by
 intro u hu
 simp only [u8n,List.mem_map] at hu
 obtain⟨n,_,rfl⟩:=hu
 rfl
theorem Qv (xs:List Nat):(u8n xs).length=xs.length:=List.length_map ..
theorem Ju (xs ys:List Nat):u8n xs++u8n ys=u8n (xs++ys):=by simp [u8n]
theorem Rd.nats {w:World} {A:Option Addr} {n c:Nat} {xs:List Nat} (h:Rd w A n c (u8n xs)):xs.length=n:=by have:=h.len;rwa [Qv] at this
theorem Rd.nat {w:World} {A:Option Addr} {n c:Nat} {xs:List Nat} (h:Rd w A n c (u8n xs)) {k:Nat} (hk:k<xs.length):∃b o,A=some ⟨b,o,none⟩∧w.cell? ⟨b,o+k,none⟩=some (.int .u8 (xs[k]:Nat)):=by
 obtain⟨b,o,hA,hc⟩:=Rd.at_ h (k:=k) (by have:=Rd.nats h;omega)
 exact⟨b,o,hA,by simpa [u8n] using hc⟩
theorem Wu {xs:List Nat} {k:Nat} (h:k<xs.length):xs.take (k+1)=xs.take k++[xs[k]]:=List.take_succ_eq_append_getElem h
structure Sl where
 A:Option Addr
 n:Nat
 c:Nat
 xs:List Nat
def Sl.val (s:Sl):Value:=.slice s.A s.n s.c
def cat (R:List Sl):List Nat:=R.flatMap Sl.xs
end Byt
namespace Mem
open Kit Byt
theorem lt_some {w:World} {G:Nat} {o:Obj} (hg:w.heap[G]?=some o):G<w.heap.size:=by
 rcases Nat.lt_or_ge G w.heap.size with h|h
 ·exact h
 ·rw [Array.getElem?_eq_none h] at hg;cases hg
theorem alloc_old {w:World} {o o':Obj} {G:Nat} (h:w.heap[G]?=some o'):(w.alloc o).heap[G]?=some o':=(Below.heap_alloc w o G (lt_some h)).trans h
theorem Zq {w w':World} {G:Nat} {o:Obj} (hg:w.heap[G]?=some o) (hb:Bw w w'):w'.heap[G]?=some o:=by
 exact (hb.block G (lt_some hg)).trans hg
theorem setL {w:World} {G:Nat} {t:TypeId} {C:List Value} (hg:w.heap[G]?=some (.cells C.toArray t (0,0))) (k:Nat) (v:Value):(w.setCell ⟨G,k,none⟩ v).heap[G]?=some (.cells (C.set k v).toArray t (0,0)):=by
 rw [heap_setCell_same w G k _ _ _ hg,List.setIfInBounds_toArray]
def Blk (w:World) (g:Nat) (t:TypeId) (xs:List Value):Prop:=w.heap[g]?=some (.cells xs.toArray t (0,0))
section
variable {w w':World} {g:Nat} {t:TypeId} {xs:List Value}
theorem Blk.cell (h:Blk w g t xs) {i:Nat} {v:Value} (hi:xs[i]?=some v):w.cell? ⟨g,i,none⟩=some v:=by
 rw [cell_of_row w g i _ _ _ h]
 simpa using hi
theorem Blk.byte {bs:List Nat} (h:Blk w g t (u8n bs)) {i:Nat} (hi:i<bs.length):w.cell? ⟨g,i,none⟩=some (.int .u8 (bs.getD i 0:Nat)):=
 h.cell (by simp [u8n,hi])
theorem Blk.frozen (h:Blk w g t xs) (i:Nat):w.frozen? ⟨g,i,none⟩=false:=frozen_of_row w g i _ _ h
theorem Blk.set (h:Blk w g t xs) (i:Nat) (v:Value):Blk (w.setCell ⟨g,i,none⟩ v) g t (xs.set i v):=setL h i v
theorem Blk.below (h:Blk w g t xs) (hb:Bw w w'):Blk w' g t xs:=Zq h hb
theorem Blk.lt (h:Blk w g t xs):g<w.heap.size:=lt_some h
theorem Blk.alloc (h:Blk w g t xs) (o:Obj):Blk (w.alloc o) g t xs:=alloc_old h
theorem Blk.far (h:Blk w g t xs) {p:Addr} (hp:g≠p.block) (u:Value):Blk (w.setCell p u) g t xs:=(Below.heap_setCell w p u g hp).trans h
theorem Blk.new (w:World) (t:TypeId) (xs:List Value):Blk (w.alloc (.cells xs.toArray t)) w.heap.size t xs:=heap_alloc_new w _
end
def Only (g:Nat) (w w':World):Prop:=w.grownBy w' (some g)∧w'.heap.size=w.heap.size
theorem Only.below {g B:Nat} {w0 w w':World} (h:Only g w w') (hb:Below B w0 w) (hg:B≤g) (hs:B≤w.heap.size):Below B w0 w':=hb.grown h.1 hs fun k hk=>by injection hk with hk;omega
theorem Only.blk {g k:Nat} {w w':World} {t:TypeId} {xs:List Value} (h:Only g w w') (hB:Blk w k t xs) (hne:k≠g):Blk w' k t xs:=
 (h.1.block k hB.lt (by simpa using hne)).trans hB
theorem Only.refl (g:Nat) (w:World):Only g w w:=⟨World.grownBy.refl w _,rfl⟩
theorem Only.row (w:World) (g:Nat) (cs:Array Value):Only g w (w.setRow g cs):=
 ⟨⟨rfl,rfl,rfl,by simp [World.setRow],fun i _ hne=>setRow_other w g i cs (by simpa using hne)⟩,by simp [World.setRow]⟩
theorem Only.of_drew {g:Nat} {w w':World} (h:Only g w.drew w'):Only g w w':=⟨⟨h.1.os,h.1.tape,h.1.output,h.1.size,h.1.block⟩,h.2⟩
theorem Only.trans {g:Nat} {a b c:World} (h:Only g a b) (k:Only g b c):Only g a c:=
 ⟨⟨k.1.os.trans h.1.os,k.1.tape.trans h.1.tape,k.1.output.trans h.1.output,Ml h.1.size k.1.size,fun i hi hne=>(k.1.block i (by rw [h.2];exact hi) hne).trans (h.1.block i hi hne)⟩,k.2.trans h.2⟩
theorem Only.set (w:World) (g i:Nat) (v:Value):Only g w (w.setCell ⟨g,i,none⟩ v):=
 ⟨⟨rfl,rfl,rfl,by simp [World.setCell],fun k _ hne=>Below.heap_setCell w _ v k (by simpa using hne)⟩,by simp [World.setCell]⟩
section
variable {P:Program} {ops:Array Oper} {rest:List Oper} {o:Oper} {a:Act} {w:World} {Q:Exit→Act→World→Prop}
theorem Qj (hgd:o.guard=none) (ty:TypeId) (x:Operand) (ho:o.op=.load ty x) (g:Nat) (hx:a.eval x=.pointer (some ⟨g,0,none⟩))
 {t:TypeId} {xs:List Value} {d:TypeDesc} (hB:Blk w g t xs) (hu:P.underlying ty=some d) (hd:(match d with | .struct _ | .array _ _=>true|_=>false)=true) (hi:(P.info? ty).map (·.size)=some xs.length)
 (h:wpList P ops Q rest (a.put o.dst (.agg xs.toArray)) w):wpList P ops Q (o :: rest) a w:=
 wpList_load_row hgd ty x ho g hx t xs.toArray (0,0) d hB hu hd (by simpa using hi) h
theorem Blk.range {g off:Nat} {t:TypeId} {xs cs:List Value} (hB:Blk w g t xs) (hc:(xs.drop off).take cs.length=cs):w.rangeAt g off cs:=fun j v hv=>by
 refine hB.cell ?_
 have hj:=(List.getElem?_eq_some_iff.1 hv).1
 rw [←hv,←hc,List.getElem?_take,if_pos hj,List.getElem?_drop]
theorem Qz (hgd:o.guard=none) (ty:TypeId) (x:Operand) (ho:o.op=.load ty x) (g off:Nat) (hx:a.eval x=.pointer (some ⟨g,off,none⟩))
 {t:TypeId} {xs:List Value} (cs:List Value) {d:TypeDesc} (hB:Blk w g t xs) (hc:(xs.drop off).take cs.length=cs) (hu:P.underlying ty=some d) (hd:d.isRow=true) (hi:(P.info? ty).map (·.size)=some cs.length)
 (h:wpList P ops Q rest (a.put o.dst (.agg cs.toArray)) w):wpList P ops Q (o :: rest) a w:=
 wpList_load_mid hgd ty x ho g off hx cs d (hB.range hc) hu hd hi h
theorem Jk (w:World) (ty:TypeId) (g off:Nat) {t:TypeId} {xs:List Value} (cs:List Value) (hB:Blk w g t xs) (hfit:off+cs.length≤xs.length) (hi:(P.info? ty).map (·.size)=some cs.length) (h1:∀v ∈ cs,v.oneCell'=true) :
 (storeVar ty ⟨g,off,none⟩ (.agg cs.toArray)).run P w=.ok () (w.setRow g (splice xs off cs).toArray):=by
 have hst:=run_storeCells_at P g off t cs 0 xs.toArray w hB (by simpa using hfit) h1
 cases hq:P.info? ty with
 | none=>simp [hq] at hi
 | some i=>
   have hs:i.size=cs.length:=by simpa [hq] using hi
   simp only [Nat.add_zero] at hst
   simp [storeVar,sizeOf,typeInfo,hq,Value.cells,hs,hst,splice]
theorem Qk (hgd:o.guard=none) (ty:TypeId) (x y:Operand) (ho:o.op=.store ty x y) (g off:Nat) (hx:a.eval x=.pointer (some ⟨g,off,none⟩))
 {t:TypeId} {xs:List Value} (cs:List Value) (hy:a.eval y=.agg cs.toArray) (hB:Blk w g t xs) (hfit:off+cs.length≤xs.length) (hi:(P.info? ty).map (·.size)=some cs.length) (h1:∀v ∈ cs,v.oneCell'=true)
 (h:∀w',Hid (Blk w' g t (splice xs off cs))→Hid (Only g w w')→wpList P ops Q rest (a.put o.dst undef) w'):wpList P ops Q (o :: rest) a w:=by
 refine wpList_plain hgd fun K hK=>?_
 unfold Oper.wp execOp
 simp only [ho,hx,hy,Instr.storeAt,Instr.sureAddr,Sem.run_bind,Sem.run_pure,Result.andThen_ok,Jk w ty g off cs hB hfit hi h1]
 exact hK _ _ (h _ (Hz (setRow_heap w g _ _ t _ hB)) (Hz (Only.row w g _)))
theorem Zk {K:Act→World→Prop} (ty:TypeId) (x y:Operand) (ho:o.op=.store ty x y) (g off:Nat) (hx:a.eval x=.pointer (some ⟨g,off,none⟩))
 {t:TypeId} {xs:List Value} (cs:List Value) (hy:a.eval y=.agg cs.toArray) (hB:Blk w g t xs) (hfit:off+cs.length≤xs.length) (hi:(P.info? ty).map (·.size)=some cs.length) (h1:∀v ∈ cs,v.oneCell'=true)
 (h:∀w',Hid (Blk w' g t (splice xs off cs))→Hid (Only g w w')→K (a.put o.dst undef) w'):o.wp P a w K Q:=by
 unfold Oper.wp execOp
 simp only [ho,hx,hy,Instr.storeAt,Instr.sureAddr,Sem.run_bind,Sem.run_pure,Result.andThen_ok,Jk w ty g off cs hB hfit hi h1]
 exact h _ (Hz (setRow_heap w g _ _ t _ hB)) (Hz (Only.row w g _))
theorem Zt {α:Type} {xs cs:List α} (h:xs.length=cs.length):splice xs 0 cs=cs:=by
 simp [splice,h▸List.drop_length]
theorem Qq (hgd:o.guard=none) (ty:TypeId) (x y:Operand) (ho:o.op=.store ty x y) (g:Nat) (hx:a.eval x=.pointer (some ⟨g,0,none⟩))
 {t:TypeId} {xs:List Value} (cs:List Value) (hy:a.eval y=.agg cs.toArray) (hB:Blk w g t xs) (hfit:xs.length=cs.length) (hi:(P.info? ty).map (·.size)=some cs.length) (h1:∀v ∈ cs,v.oneCell'=true)
 (h:∀w',Hid (Blk w' g t cs)→Hid (Only g w w')→wpList P ops Q rest (a.put o.dst undef) w'):wpList P ops Q (o :: rest) a w:=
 Qk hgd ty x y ho g 0 hx cs hy hB (by omega) hi h1 (by rw [Zt hfit];exact h)
theorem Jq {t e:TypeId} {n k:Nat} {xs:List Value} {v:Value} (ht:P.underlying t=some (.array n e)) (hd:∃d,P.underlying e=some (.int d)) (hi:(P.info? e).map (·.size)=some 1) (hk:k<n) (hv:xs[k]?=some v) (w:World) :
 (Instr.index t (.agg xs.toArray) (.int .i64 (k:Int))).run P w=.ok v w:=by
 obtain⟨d,hd⟩:=hd
 cases hq:P.info? e with
 | none=>simp [hq] at hi
 | some i=>
   have hs:i.size=1:=by simpa [hq] using hi
   simp [Instr.index,run_underlying ht,asIntOf,sizeOf,typeInfo,hq,hs,hk,part,isAgg,run_underlying hd,hv]
theorem Ql (hgd:o.guard=none) (d s:Operand) (dT sT:TypeId) (ho:o.op=.call { callee:=.builtin .copy,args:=#[d,s],argTypes:=#[dT,sT] }) (elem:TypeId) (hu:P.underlying dT=some (.slice elem)) (hsz:(P.info? elem).map (·.size)=some 1)
 (g off dLen dCap:Nat) (hd:a.eval d=.slice (some ⟨g,off,none⟩) dLen dCap) {A:Option Addr} {n c:Nat} {ys:List Value} (hs:a.eval s=.slice A n c) (hR:Rd w A n c ys) (h1:∀v ∈ ys,v.oneCell'=true)
 {t:TypeId} {xs:List Value} (hB:Blk w g t xs) (hfit:off+dLen≤xs.length)
 (h:∀w' m,Hid (m=min n dLen)→Hid (Blk w' g t (splice xs off (ys.take m)))→Hid (Only g w w')→wpList P ops Q rest (a.put o.dst (.int .i64 (m:Nat))) w'):wpList P ops Q (o :: rest) a w:=by
 have hl:=hR.len
 have hcl:(ys.take (min n dLen)).length=min n dLen:=by simp;omega
 by_cases h0:min n dLen=0
 ·refine wpList_copy_nothing hgd d s dT sT ho elem hu hsz (some ⟨g,off,none⟩) A dLen dCap n c hd hs h0 ?_
  exact h w 0 (Hz h0.symm) (Hz (by simpa [splice] using hB)) (Hz (Only.refl g w))
 ·obtain⟨b,oo,hA,_,hj⟩:=hR.2.2.2 (by omega)
  subst hA
  refine wpList_copy_own hgd d s dT sT ho elem hu hsz g off dLen dCap ⟨b,oo,none⟩ n c hd hs xs.toArray t hB (ys.take (min n dLen)) hcl (fun j v hv=>?_) (by rw [hcl];simp;omega) (fun v hv=>h1 v (List.mem_of_mem_take hv)) ?_
  ·rw [Addr.add_lit]
   rw [List.getElem?_take] at hv
   split at hv
   ·exact hj j v hv
   ·cases hv
  ·have h2:=h (w.setRow g (splice xs off (ys.take (min n dLen))).toArray) (min n dLen) (Hz rfl) (Hz (setRow_heap w g _ _ t _ hB)) (Hz (Only.row w g _))
   rw [hcl]
   simpa [splice,goInt,hcl] using h2
end
structure Keep (F:Nat→Prop) (w w':World):Prop where
 os:w'.os=w.os
 tape:w'.tape=w.tape
 output:w'.output=w.output
 size:w.heap.size≤w'.heap.size
 block:∀k,k<w.heap.size→¬F k→w'.heap[k]?=w.heap[k]?
section
variable {F G:Nat→Prop} {a b c w w':World} {B g:Nat}
theorem Keep.refl (F:Nat→Prop) (w:World):Keep F w w:=⟨rfl,rfl,rfl,Mr _,fun _ _ _=>rfl⟩
theorem Keep.trans (h:Keep F a b) (k:Keep G b c) (hf:∀k,G k→F k∨a.heap.size≤k):Keep F a c:=
 ⟨k.os.trans h.os,k.tape.trans h.tape,k.output.trans h.output,Ml h.size k.size,fun i hi hn=>(k.block i (Mw hi h.size) fun hg=>by
  rcases hf i hg with h1|h1
  ·exact hn h1
  ·omega).trans (h.block i hi hn)⟩
theorem Keep.of_below (h:Bw w w'):Keep F w w':=⟨h.os,h.tape,h.output,h.size,fun i hi _=>h.block i hi⟩
theorem Keep.below (h:Keep F w w') (hF:∀k,F k→B≤k) (hs:B≤w.heap.size):Below B w w':=
 ⟨h.os,h.tape,h.output,h.size,fun i hi=>h.block i (by omega) fun hf=>by have:=hF i hf;omega⟩
theorem Keep.grown {row:Option Nat} (h:w.grownBy w' row) (hr:∀k,row=some k→F k):Keep F w w':=
 ⟨h.os,h.tape,h.output,h.size,fun i hi hn=>h.block i hi fun he=>hn (hr i he.symm)⟩
theorem Keep.only (h:Only g w w') (hg:F g):Keep F w w':=Keep.grown h.1 fun k hk=>by injection hk with hk;exact hk▸hg
theorem Keep.drew (h:Keep F w w'):Keep F w w'.drew:=⟨h.os,h.tape,h.output,h.size,h.block⟩
theorem Keep.set (w:World) (i:Nat) (v:Value) (hg:F g):Keep F w (w.setCell ⟨g,i,none⟩ v):=Keep.only (Only.set w g i v) hg
theorem Keep.mono (h:Keep F w w') (hf:∀k,k<w.heap.size→F k→G k):Keep G w w':=⟨h.os,h.tape,h.output,h.size,fun i hi hn=>h.block i hi fun hF=>hn (hf i hi hF)⟩
theorem Keep.blk {t:TypeId} {xs:List Value} (h:Keep F w w') (hB:Blk w g t xs) (hg : ¬F g):Blk w' g t xs:=(h.block g hB.lt hg).trans hB
theorem Keep.rd {A:Option Addr} {n c:Nat} {xs:List Value} (h:Keep F w w') (hR:Rd w A n c xs) (hA:0<n→∀b o,A=some ⟨b,o,none⟩→¬F b):Rd w' A n c xs:=
 ⟨hR.1,hR.2.1,hR.2.2.1,fun hp=>by
  obtain⟨b,o,he,hb,hj⟩:=hR.2.2.2 hp
  refine⟨b,o,he,Mw hb h.size,fun j u hu=>?_⟩
  exact (World.cell?_of_block (h.block b hb (hA hp b o he))).trans (hj j u hu)⟩
theorem Keep.own {base:Nat} {e:TypeId} {size n:Nat} {v:Value} {xs:List Value} (h:Keep F w w') (ho:w.ownsRow base e size v n xs) (hv:∀k,v.ownBlock=some k→¬F k):w'.ownsRow base e size v n xs:=by
 refine⟨ho.1,?_⟩
 rcases ho.2 with hn|⟨g,cap,cur,rfl,hb,hgg,rest⟩
 ·exact .inl hn
 ·exact .inr ⟨g,cap,cur,rfl,hb,(h.block g (lt_some hgg) (hv g rfl)).trans hgg,rest⟩
end
theorem rep_one {zs:List Value} (h1:∀u ∈ zs,u.oneCell'=true) (n:Nat):∀u ∈ (Builtin.zeroCells zs.toArray n).toList,u.oneCell'=true:=by
 intro u hu
 simp only [Builtin.zeroCells,List.mem_map,Array.toList_map,Array.toList_range] at hu
 obtain⟨i,hi,rfl⟩:=hu
 simp only [List.size_toArray] at hi
 have hz:0<zs.length:=by
  rcases Nat.eq_zero_or_pos zs.length with h|h
  ·rw [h] at hi;simp at hi
  ·exact h
 have hm:=Nat.mod_lt i hz
 refine h1 _ ?_
 simp [hm]
section
variable {P:Program} {ops:Array Oper} {rest:List Oper} {o:Oper} {a:Act} {w:World} {Q:Exit→Act→World→Prop}
theorem Kh (w:World) (t e ty:TypeId) (z:Value) {zs:List Value} (ht:P.underlying t=some (.slice e)) (hv:∀w,(zeroValue e).run P w=.ok z w) (hz:z.cells=zs.toArray) (h1:∀u ∈ zs,u.oneCell'=true)
 {base n c:Nat} {A:Option Addr} {xs:List Value} (ho:w.ownsRow base e zs.length (.slice A n c) n xs) :
 ∃w' ys,(Builtin.clear_ #[t] ty #[.slice A n c]).run P w=.ok (.tuple #[]) w'∧w'.ownsRow base e zs.length (.slice A n c) n ys∧w.grownBy w' (Value.slice A n c).ownBlock∧w'.heap.size=w.heap.size:=by
 rcases ho.2 with⟨hv0,h0⟩|⟨g,cap',cur,hv0,hb,hh,hnc,hcm,hcs,hx⟩
 ·simp only [Value.slice.injEq] at hv0
  obtain⟨rfl,rfl,rfl⟩:=hv0
  exact⟨w,xs,by simp [Builtin.clear_,run_underlying ht],ho,World.grownBy.refl w _,rfl⟩
 ·simp only [Value.slice.injEq] at hv0
  obtain⟨rfl,_,rfl⟩:=hv0
  rcases Nat.eq_zero_or_pos n with h0|h0
  ·subst h0
   exact⟨w,xs,by simp [Builtin.clear_,run_underlying ht],ho,World.grownBy.refl w _,rfl⟩
  ·have hzl:(Builtin.zeroCells zs.toArray n).toList.length=n*zs.length:=by simp [Builtin.zeroCells]
   have hle:n*zs.length≤c*zs.length:=Nat.mul_le_mul_right _ hnc
   have hst:=run_storeCells_at P g 0 e (Builtin.zeroCells zs.toArray n).toList 0 cur w hh (by rw [hzl];omega) (rep_one h1 n)
   obtain⟨ZC,hZC⟩:∃ZC,ZC=(Builtin.zeroCells zs.toArray n).toList:=⟨_,rfl⟩
   rw [←hZC] at hst hzl
   simp only [Nat.zero_add,List.take_zero,List.nil_append] at hst
   refine⟨w.setRow g (ZC++cur.toList.drop ZC.length).toArray,ZC,?_,⟨hzl,.inr ⟨g,c,_,rfl,hb,setRow_heap w g _ _ e _ hh,hnc,hcm,?_,?_⟩⟩,(Only.row w g _).1,(Only.row w g _).2⟩
   ·obtain⟨m,rfl⟩:∃m,n=m+1:=⟨n-1,by omega⟩
    simp [Builtin.clear_,run_underlying ht,hv,hz,←hZC,hst]
   ·simp [hzl,hcs];omega
   ·rw [←hzl];simp
theorem Y6 (hgd:o.guard=none) (x:Operand) (t e:TypeId) (ho:o.op=.call { callee:=.builtin .clear,args:=#[x],argTypes:=#[t] }) (z:Value) {zs:List Value} (ht:P.underlying t=some (.slice e)) (hv:∀w,(zeroValue e).run P w=.ok z w) (hz:z.cells=zs.toArray) (h1:∀u ∈ zs,u.oneCell'=true)
 {base n c:Nat} {A:Option Addr} {xs:List Value} (hx:a.eval x=.slice A n c) {size:Nat} (hs:size=zs.length) (hown:w.ownsRow base e size (.slice A n c) n xs)
 (h:∀w' ys,Hid (w'.ownsRow base e size (.slice A n c) n ys)→w.grownBy w' (Value.slice A n c).ownBlock→Hid (w'.heap.size=w.heap.size)→wpList P ops Q rest (a.put o.dst (.tuple #[])) w'):wpList P ops Q (o :: rest) a w:=by
 subst hs
 refine wpList_plain hgd fun K hK=>?_
 obtain⟨w',ys,hrun,h2,h3,h4⟩:=Kh (P:=P) w t e o.type z ht hv hz h1 hown
 unfold Oper.wp execOp
 simp only [ho,resolve,invoke,builtin,Sem.run_bind,Sem.run_pure,Result.andThen_ok,List.map_toArray,List.map_cons,List.map_nil,hx,hrun]
 exact hK _ _ (h w' ys h2 h3 h4)
theorem Q9 {K:Act→World→Prop} (s x:Operand) (t:TypeId)
 (ho:o.op=.call { callee:=.builtin .append,args:=#[s,x],argTypes:=#[t,t] })
 (base:Nat) (e:TypeId) (i:TypeInfo) (z:Value) (size bytes:Nat) (ht:P.underlying t=some (.slice e)) (hi:P.info? e=some i) (hz:i.zero=some z)
 (hsize:i.size=size) (hby:i.bytes=bytes) (hzs:z.cells.size=size) (hsz:0<size)
 (v:Value) (n:Nat) (xs:List Value) (hs:a.eval s=v) (hown:w.ownsRow base e size v n xs)
 (ad:Addr) (m c:Nat) (news:List Value) (hx:a.eval x=.slice (some ad) m c) (hl:news.length=m*size) (hnews:∀j u,news[j]?=some u→w.cell? (ad.add j)=some u) (h1:∀u ∈ news,u.oneCell'=true)
 (h63:n+m≤maxLen) (hbytes:(n+m)*bytes≤140737488355328) (hbase:base≤w.heap.size)
 (h:∀A' n' c' w',Hid (n'=n+m)→Hid (w'.ownsRow base e size (.slice A' n' c') n' (xs++news))→w.grownBy w' v.ownBlock→Hid ((Value.slice A' n' c').ownBlock=v.ownBlock∨(Value.slice A' n' c').ownBlock=some w.heap.size)→K (a.put o.dst (.slice A' n' c')) w'):o.wp P a w K Q:=by
 obtain⟨v',w',hrun,h2,h3,_,h5⟩:=run_append_own_at (P:=P) (w:=w) base t o.type e i z size bytes ht hi hz hsize hby hzs hsz v n xs hown ad m c news hl hnews h1 h63 hbytes hbase
 unfold Oper.wp execOp
 simp only [ho,resolve,invoke,builtin,Sem.run_bind,Sem.run_pure,Result.andThen_ok,List.map_toArray,List.map_cons,List.map_nil,hs,hx,hrun]
 have h6:=h2
 rcases h6.2 with⟨rfl,h0⟩|⟨g,cap,cur,rfl,_⟩
 ·exact h none 0 0 w' h0.symm (by rw [h0] at h2;exact h2) h3 h5
 ·exact h _ _ _ w' rfl h2 h3 h5
end
end Mem
namespace DskA
open Kit Byt Mem
structure St where
 S:List (List Nat)
 L:List (Nat×List Nat)
 fuse:Int
 down:Bool
structure St.ok (s:St):Prop where
 pos:1≤s.S.length
 most:s.S.length≤128
 sec:∀x ∈ s.S,x.length=64
 wait:∀p ∈ s.L,p.1<s.S.length∧p.2.length=64
 lo : -9223372036854775808≤s.fuse
 hi:s.fuse≤9223372036854775807
structure Wr where
 at_:Nat
 b:Nat
 c:Nat
 bs:List Nat
def Wr.cells (e:Wr):List Value:=[.int .i64 (e.at_:Int),.slice (some ⟨e.b,0,none⟩) 64 e.c]
def wc (E:List Wr):List Value:=E.flatMap Wr.cells
theorem wc_len (E:List Wr):(wc E).length=E.length*2:=by
 induction E with
 | nil=>rfl
 | cons e E ih=>simp only [wc,List.flatMap_cons,Ma] at ih ⊢;rw [ih];simp [Wr.cells];omega
theorem wc_app (E E':List Wr):wc (E++E')=wc E++wc E':=by simp [wc]
theorem wc_at {E:List Wr} {k:Nat} (h:k<E.length):(wc E)[2*k]?=some (.int .i64 (E[k].at_:Int))∧(wc E)[2*k+1]?=some (.slice (some ⟨E[k].b,0,none⟩) 64 E[k].c):=by
 induction E generalizing k with
 | nil=>simp at h
 | cons e E ih=>
   have hc:wc (e :: E)=.int .i64 (e.at_:Int) :: .slice (some ⟨e.b,0,none⟩) 64 e.c :: wc E:=rfl
   rw [hc]
   cases k with
   | zero=>exact⟨rfl,rfl⟩
   | succ k=>
     have:=ih (k:=k) (by simpa using h)
     rw [show 2*(k+1)=2*k+1+1 by omega]
     simpa using this
def hd (gl N:Nat) (A:Option Addr) (n c:Nat) (f:Int) (d:Bool):List Value:=[.slice (some ⟨gl,0,none⟩) N N,.slice A n c,.int .i64 f,.bool d]
structure At (w:World) (F:Nat→Prop) (g:Nat) (s:St) (gl:Nat) (A:Option Addr) (n c:Nat) (E:List Wr):Prop where
 head:Blk w g 88 (hd gl s.S.length A n c s.fuse s.down)
 laid:Blk w gl 157 (u8n s.S.flatten)
 own:w.ownsRow 0 119 2 (.slice A n c) n (wc E)
 list:s.L=E.map fun e=>(e.at_,e.bs)
 ent:∀e ∈ E,Rd w (some ⟨e.b,0,none⟩) 64 e.c (u8n e.bs)∧F e.b∧e.b≠g∧e.b≠gl∧∀k,(Value.slice A n c).ownBlock=some k→e.b≠k
 fg:F g
 fl:F gl
 ne:gl≠g
 fw:∀k,(Value.slice A n c).ownBlock=some k→F k∧k≠g∧k≠gl
 lt:∀k,F k→k<w.heap.size
 ok:s.ok
def Dk (w:World) (F:Nat→Prop) (g:Nat) (s:St):Prop:=∃gl A n c E,At w F g s gl A n c E
section
variable {w w':World} {F G:Nat→Prop} {g gl n c:Nat} {s:St} {A:Option Addr} {E:List Wr}
theorem At.len (h:At w F g s gl A n c E):E.length=n:=by
 have:=h.own.1
 rw [wc_len] at this
 omega
theorem At.long (h:At w F g s gl A n c E):s.L.length=n:=by rw [h.list,List.length_map,h.len]
theorem At.cells (h:At w F g s gl A n c E):w.cell? ⟨g,0,none⟩=some (.slice (some ⟨gl,0,none⟩) s.S.length s.S.length)∧w.cell? ⟨g,1,none⟩=some (.slice A n c)∧w.cell? ⟨g,2,none⟩=some (.int .i64 s.fuse)∧w.cell? ⟨g,3,none⟩=some (.bool s.down):=
 ⟨h.head.cell rfl,h.head.cell rfl,h.head.cell rfl,h.head.cell rfl⟩
theorem At.keep (h:At w F g s gl A n c E) (k:Keep G w w') (hd:∀k,F k→¬G k):At w' F g s gl A n c E:=
 ⟨k.blk h.head (hd _ h.fg),k.blk h.laid (hd _ h.fl),k.own h.own fun i hi=>hd i (h.fw i hi).1,h.list,fun e he=>by
  obtain⟨h1,h2,h3,h4,h5⟩:=h.ent e he
  exact⟨k.rd h1 fun _ b o hb=>by injection hb with hb;injection hb with hb _;exact hb▸hd _ h2,h2,h3,h4,h5⟩,
  h.fg,h.fl,h.ne,h.fw,fun i hi=>Mw (h.lt i hi) k.size,h.ok⟩
theorem Dk.keep (h:Dk w F g s) (k:Keep G w w') (hd:∀k,F k→¬G k):Dk w' F g s:=by
 obtain⟨gl,A,n,c,E,h⟩:=h
 exact⟨gl,A,n,c,E,h.keep k hd⟩
theorem Dk.below (h:Dk w F g s) (hb:Bw w w'):Dk w' F g s:=h.keep (Keep.of_below (F:=fun _=>False) hb) fun _ _ h=>h
theorem Dk.lt (h:Dk w F g s):∀k,F k→k<w.heap.size:=by obtain⟨_,_,_,_,_,h⟩:=h;exact h.lt
theorem Dk.ok (h:Dk w F g s):s.ok:=by obtain⟨_,_,_,_,_,h⟩:=h;exact h.ok
theorem At.heads {f:Int} {d:Bool} (h:At w F g s gl A n c E) (h':Blk w' g 88 (hd gl s.S.length A n c f d)) (k:Keep (fun i=>i=g) w w') (lo : -9223372036854775808≤f) (hi:f≤9223372036854775807):At w' F g { s with fuse:=f,down:=d } gl A n c E:=
 ⟨h',k.blk h.laid h.ne,k.own h.own fun i hi=>(h.fw i hi).2.1,h.list,fun e he=>by
  obtain⟨h1,h2,h3,h4,h5⟩:=h.ent e he
  exact⟨k.rd h1 fun _ b o hb=>by injection hb with hb;injection hb with hb _;exact hb▸h3,h2,h3,h4,h5⟩,
  h.fg,h.fl,h.ne,h.fw,fun i hi=>Mw (h.lt i hi) k.size,⟨h.ok.pos,h.ok.most,h.ok.sec,h.ok.wait,lo,hi⟩⟩
theorem At.fuse (h:At w F g s gl A n c E) {f:Int} (lo : -9223372036854775808≤f) (hi:f≤9223372036854775807):At (w.setCell ⟨g,2,none⟩ (.int .i64 f)) F g { s with fuse:=f } gl A n c E:=
 h.heads (f:=f) (d:=s.down) (h.head.set 2 _) (Keep.set w 2 _ rfl) lo hi
theorem At.down_ (h:At w F g s gl A n c E) (d:Bool):At (w.setCell ⟨g,3,none⟩ (.bool d)) F g { s with down:=d } gl A n c E:=
 h.heads (f:=s.fuse) (d:=d) (h.head.set 3 _) (Keep.set w 3 _ rfl) h.ok.lo h.ok.hi
end
def Got (F:Nat→Prop) (g:Nat) (w:World) (v:Value) (s':St) (e:Ending) (w':World):Prop:=
 e=.returned v∧∃F',Dk w' F' g s'∧Keep F w w'∧∀k,F' k→F k∨w.heap.size≤k
def spend (s:St):Bool×St:=
 if s.fuse=0 then (false,{ s with down:=true }) else if s.down then (false,s) else (true,if 0<s.fuse then { s with fuse:=s.fuse-1 } else s)
def inB (s:St) (i:Int):Bool:=decide (0≤i∧i<(s.S.length:Int))
theorem has_any (F:Nat→Prop) (g:Nat) (s:St) (i:Int) (w:World) (hD:Dk w F g s) :
 Calls Tryz.prog 42 #[.pointer (some ⟨g,0,none⟩),.int .i64 i] w fun e w'=>e=.returned (.bool (inB s i))∧w=w':=by
 obtain⟨gl,A,n,c,E,h⟩:=hD
 obtain⟨c0,_,_,_⟩:=h.cells
 have hp:=h.ok.pos
 have hm:=h.ok.most
 clear h
 obtain⟨N,hN⟩:∃N,N=s.S.length:=⟨_,rfl⟩
 unfold inB
 rw [←hN] at c0 hp hm ⊢
 clear hN
 by_cases h0:0≤i
 ·go_enter Tryz.func42,Tryz.ntmps42
  go_wp2
  go_ret
  exact⟨Q3 (by simp [h0]),rfl⟩
 ·go_enter Tryz.func42,Tryz.ntmps42
  go_wp2
  go_ret
  exact⟨Q3 (by rw [Bool.eq_iff_iff];simp;omega),rfl⟩
theorem N0 (F:Nat→Prop) (g:Nat) (s:St) (w:World) (hD:Dk w F g s):Calls Tryz.prog 10 #[.pointer (some ⟨g,0,none⟩)] w fun e w'=>e=.returned (.int .i64 (s.S.length:Nat))∧w=w':=by
 obtain⟨gl,A,n,c,E,h⟩:=hD
 obtain⟨c0,_,_,_⟩:=h.cells
 clear h
 go_enter Tryz.func10,Tryz.ntmps10
 go_wp2
 go_ret
 exact⟨rfl,rfl⟩
theorem U2 (F:Nat→Prop) (g:Nat) (s:St) (w:World) (hD:Dk w F g s) :
 Calls Tryz.prog 44 #[.pointer (some ⟨g,0,none⟩)] w (Got F g w (.bool (spend s).1) (spend s).2):=by
 obtain⟨gl,A,n,c,E,h⟩:=hD
 obtain⟨_,_,c2,c3⟩:=h.cells
 have f2:=h.head.frozen 2
 have f3:=h.head.frozen 3
 have lo:=h.ok.lo
 have hi:=h.ok.hi
 have H:=Hz h
 clear h
 unfold spend
 by_cases h0:s.fuse=0
 ·rw [if_pos h0]
  rw [h0] at c2
  go_enter Tryz.func44,Tryz.ntmps44
  go_wp2
  go_ret
  exact⟨rfl,F,⟨gl,A,n,c,E,H.o.down_ true⟩,Keep.set _ _ _ H.o.fg,fun k hk=>.inl hk⟩
 ·rw [if_neg h0]
  have h0':(s.fuse==0)=false:=by simpa using h0
  have H0:=Hz h0
  clear h0
  cases hd:s.down with
  | true=>
    rw [hd] at c3
    rw [if_pos rfl]
    have Hd:=Hz hd
    clear hd
    go_enter Tryz.func44,Tryz.ntmps44
    go_wp2
    go_ret
    exact⟨rfl,F,⟨gl,A,n,c,E,H.o⟩,Keep.refl _ _,fun k hk=>.inl hk⟩
  | false=>
    rw [hd] at c3
    rw [if_neg (by simp)]
    have Hd:=Hz hd
    clear hd
    by_cases hp:0<s.fuse
    ·rw [if_pos hp]
     go_enter Tryz.func44,Tryz.ntmps44
     go_wp2
     go_ret
     have hA:=H.o.fuse (f:=s.fuse-1) (by omega) (by omega)
     rw [Hd.o] at hA
     exact⟨rfl,F,⟨gl,A,n,c,E,hA⟩,Keep.set _ _ _ H.o.fg,fun k hk=>.inl hk⟩
    ·rw [if_neg hp]
     go_enter Tryz.func44,Tryz.ntmps44
     go_wp2
     go_ret
     exact⟨rfl,F,⟨gl,A,n,c,E,H.o⟩,Keep.refl _ _,fun k hk=>.inl hk⟩
theorem all_any (i:Int) (w:World):Calls Tryz.prog 164 #[.int .i64 i] w fun e w'=>e=.returned (.bool true)∧w=w':=by
 go_enter Tryz.func164,Tryz.ntmps164
 go_wp2
 go_ret
 exact⟨rfl,rfl⟩
end DskA
namespace DskB
open Byt Mem DskA
theorem info8:(Tryz.prog.info? 5).map (fun i=>(i.zero,i.size,i.bytes))=some (some (.int .u8 0),1,1):=by kernel_rfl
theorem size8:(Tryz.prog.info? 5).map (·.size)=some 1:=by kernel_rfl
def Fresh (w:World) (xs:List Nat) (e:Ending) (w':World):Prop:=
 ∃A n c,Hid (n=xs.length)∧e=.returned (.slice A n c)∧w'.ownsRow w.heap.size 5 1 (.slice A n c) n (u8n xs)∧Bw w w'
theorem Fresh.of {w w':World} {xs:List Nat} {A:Option Addr} {n c:Nat} (h:w'.ownsRow w.heap.size 5 1 (.slice A n c) n (u8n xs)) (hb:Bw w w'):Fresh w xs (.returned (.slice A n c)) w':=by
 have hn:=h.1
 rw [Qv] at hn
 exact⟨A,n,c,(show _=_ by omega),rfl,h,hb⟩
theorem Zz {w:World} {base n c size:Nat} {e:TypeId} {A:Option Addr} {xs:List Value} (h:w.ownsRow base e size (.slice A n c) n xs) (hn:0<n):∃g,A=some ⟨g,0,none⟩∧base≤g∧g<w.heap.size:=by
 rcases h.2 with⟨hv,h0⟩|⟨g,cap',cur,hv,hb,hh,_⟩
 ·omega
 ·simp only [Value.slice.injEq] at hv
  exact⟨g,hv.1,hb,lt_of_block hh⟩
theorem Jh (xs:List Nat) (k y:Nat):(u8n xs).set k (.int .u8 (y:Int))=u8n (xs.set k y):=by simp [u8n,List.map_set]
def zs (n:Nat):List Nat:=List.replicate n 0
theorem zs_len (n:Nat):(zs n).length=n:=List.length_replicate
theorem zs_flat (k:Nat):(List.replicate k (zs 64)).flatten=zs (k*64):=by unfold zs;generalize 64=m;simp
theorem zs_made (m:Nat):madeCells (u8n (zs 64)).toArray m=(u8n (zs m)).toArray:=by
 obtain⟨q,hq⟩:∃q:Nat,q=64:=⟨_,rfl⟩
 rw [←hq]
 apply Array.ext
 ·simp [madeCells,u8n,zs]
 ·intro i h1 h2
  have:i%q<q:=Nat.mod_lt _ (by omega)
  simp [madeCells,u8n,zs,this]
theorem qv8:(Tryz.prog.info? 157).map (fun i=>(i.zero,i.size,i.bytes))=some (some (.agg (u8n (zs 64)).toArray),64,64):=by kernel_rfl
theorem Y7 {P:Program} {ops:Array Oper} {rest:List Oper} {o:Oper} {a:Act} {Q:Exit→Act→World→Prop} (w:World) (hg:o.guard=none) (l:Operand) (t:TypeId) (hop:o.op=Op.makeSlice t l l)
 (e:TypeId) (i:TypeInfo) (h1:P.underlying t=some (.slice e)) (h2:P.info? e=some i) (h3:i.zero=some (.agg (u8n (zs 64)).toArray)) (h4:i.size=64) (h5:i.bytes=64)
 (L:Int) (n:Nat) (hl:a.eval l=.int .i64 L) (hL:L=(n:Int)) (hn:n≤128)
 (hK:∀w',Hid (Blk w' w.heap.size e (u8n (zs (n*64))))→Bw w w'→Hid (w'.heap.size=w.heap.size+1)→wpList P ops Q rest (a.put o.dst (.slice (some ⟨w.heap.size,0,none⟩) n n)) w'):wpList P ops Q (o :: rest) a w:=by
 refine wpList_plain hg fun K hK'=>?_
 subst hL
 have hrun:=run_make (P:=P) w t e i _ h1 h2 h3 .i64 .i64 n n (by omega) (by omega) (by rw [h5];omega) (by omega)
 simp only [Int.toNat_natCast,h4,Value.cells,zs_made] at hrun
 unfold Oper.wp
 simp [execOp,hop,hl,hrun,Result.andThen]
 exact hK' _ _ (hK _ (Blk.new w e _) ((Mb _ _).alloc (Mr _) _) (by simp [Hid]))
def cnt (n:Int):Nat:=(min (max n 1) 128).toNat
theorem N1 (n:Int):1≤cnt n:=by unfold cnt;omega
theorem qjw (n:Int):cnt n≤128:=by unfold cnt;omega
def newSt (n:Int):St:=⟨List.replicate (cnt n) (zs 64),[],-1,false⟩
def Made (w:World) (s:St) (e:Ending) (w':World):Prop:=
 ∃g F,e=.returned (.pointer (some ⟨g,0,none⟩))∧Dk w' F g s∧Bw w w'∧∀k,F k→w.heap.size≤k
theorem qv9 {w:World} {F:Nat→Prop} {g gl:Nat} {n:Int} (h:Blk w g 88 (hd gl (cnt n) none 0 0 (-1) false)) (hl:Blk w gl 157 (u8n (zs (cnt n*64)))) (hg:F g) (hgl:F gl) (hne:gl≠g) (hlt:∀k,F k→k<w.heap.size) :
 Dk w F g (newSt n):=by
 have p1:=N1 n
 have p2:=qjw n
 refine⟨gl,none,0,0,[],⟨?_,?_,World.ownsRow_nil _ _ _ _,rfl,by simp,hg,hgl,hne,(fun k hk=>by cases hk),hlt,⟨?_,?_,?_,by simp [newSt],by simp [newSt],by simp [newSt]⟩⟩⟩
 ·simpa [newSt] using h
 ·simpa only [newSt,zs_flat] using hl
 ·simpa [newSt] using p1
 ·simpa [newSt] using p2
 ·intro x hx
  rw [(List.mem_replicate.1 hx).2,zs_len]
theorem K2 (n:Int) (w:World):Calls Tryz.prog 8 #[.int .i64 n] w (Made w (newSt n)):=by
 obtain⟨i0,hi0,hz0,hz1,hz2⟩:=info_parts qv8
 have p1:=N1 n
 have p2:=qjw n
 have hc:(n≤0∧cnt n≤1)∨(1≤n∧n≤128∧n≤(cnt n:Nat)∧(cnt n:Nat)≤n)∨(128<n∧128≤cnt n):=by unfold cnt;omega
 obtain⟨K,hK⟩:∃K,K=cnt n:=⟨_,rfl⟩
 rw [←hK] at p1 p2 hc
 have HK:=Hz hK
 clear hK
 rcases hc with⟨h1,h2⟩|⟨h1,h1',h2,h2'⟩|⟨h1,h2⟩
 all_goals
  go_enter Tryz.func8,Tryz.ntmps8
  go_wp2_with (refine Y7 _ rfl (.tmp 5) 85 rfl 157 i0 Tryz.underlying85 hi0 hz0 hz1 hz2 _ K rfl (by omega) p2 ?_;intro w1 hB1 hb1 hs1)
  go_ret
  have hs:=hs1.o
  refine⟨w1.heap.size,fun k=>k=w.heap.size∨k=w1.heap.size,rfl,qv9 (gl:=w.heap.size) ?_ ?_ (.inr rfl) (.inl rfl) (by omega) (fun k hk=>by simp;omega),hb1.alloc hb1.size _,fun k hk=>by omega⟩
  ·rw [←HK.o];exact Blk.new w1 _ (hd w.heap.size K none 0 0 (-1) false)
  ·rw [←HK.o];exact Blk.alloc hB1.o _
end DskB
namespace DskC
open Kit Byt Mem DskA DskB
theorem clone_any (A:Option Addr) (n c:Nat) (xs:List Nat) (w:World) (hR:Rd w A n c (u8n xs)) (hn:0<n) (hl:n≤140737488351232) :
 Calls Tryz.prog 45 #[.slice A n c] w (Fresh w xs):=by
 obtain⟨i0,hi0,hz0,hz1,hz2⟩:=info_parts info8
 obtain⟨b,o,hA⟩:∃b o,A=some ⟨b,o,none⟩:=by
  obtain⟨b,o,hA,_⟩:=hR.at_ hn
  exact⟨b,o,hA⟩
 have HR:=Hz hR
 clear hR
 subst hA
 have hnil:=fun (W:World)=>Lib.run_eql_slice_nil (P:=Tryz.prog) W 31 5 (some ⟨b,o,none⟩) n c 0 0 Tryz.underlying31
 go_enter Tryz.func45,Tryz.ntmps45
 go_wp2_with (at_builtin;refine Qu _ rfl (.tmp 5) (.tmp 6) _ rfl w.heap.size 5 i0 _ 1 Tryz.underlying31 hi0 hz0 hz1 hz2 rfl _ 0 [] rfl (emptied w _) (some ⟨b,o,none⟩) n c (u8n xs) rfl (HR.o.alloc _) (u8n_one _) (by omega) (by omega) (size_alloc _ _) ?_;intro A2 n2 c2 w2 hn2 hown2 hg2 hat2;have hb2:=below_add ((Mb w.heap.size w).alloc (Mr _) _) (emptied w _) (Mr _) hg2)
 go_ret
 exact Fresh.of (by simpa using hown2) hb2
section
variable {w w2 w3:World} {F:Nat→Prop} {g gl n c n' c' b cb i:Nat} {s:St} {A A':Option Addr} {E:List Wr} {bs:List Nat} {o:Obj}
theorem grow_keep (hb2:Bw w w2) {row:Option Nat} (hg:(w2.alloc o).grownBy w3 row):Keep (fun k=>row=some k) w w3:=
 ((Keep.of_below (hb2.alloc hb2.size o)).trans (Keep.grown (F:=fun k=>row=some k) hg fun _ h=>h) fun _ h=>.inl h)
theorem At.add (h:At w F g s gl A n c E) (hb2:Bw w w2) (hR:Rd w2 (some ⟨b,0,none⟩) 64 cb (u8n bs)) (hb:w.heap.size≤b) (hbl:b<w2.heap.size) (hg:(w2.alloc o).grownBy w3 (Value.slice A n c).ownBlock)
 (hat:(Value.slice A' n' c').ownBlock=(Value.slice A n c).ownBlock∨(Value.slice A' n' c').ownBlock=some (w2.alloc o).heap.size)
 (hown:w3.ownsRow 0 119 2 (.slice A' n' c') n' (wc E++Wr.cells ⟨i,b,cb,bs⟩)) (hi:i<s.S.length) (hbs:bs.length=64) :
 At (w3.setCell ⟨g,1,none⟩ (.slice A' n' c')) (fun k=>F k∨k=b∨(Value.slice A' n' c').ownBlock=some k) g { s with L:=s.L++[(i,bs)] } gl A' n' c' (E++[⟨i,b,cb,bs⟩]):=by
 have hK:=grow_keep hb2 hg
 have hsz:=hb2.size
 have hsa:(w2.alloc o).heap.size=w2.heap.size+1:=by simp
 have hs3:=hg.size
 have hgw:=h.lt g h.fg
 have hglw:=h.lt gl h.fl
 have ho':∀k,(Value.slice A' n' c').ownBlock=some k→(F k∧k≠g∧k≠gl∧(Value.slice A n c).ownBlock=some k)∨k=w2.heap.size+1:=by
  intro k hk
  rcases hat with h1|h1
  ·rw [h1] at hk
   exact .inl ⟨(h.fw k hk).1,(h.fw k hk).2.1,(h.fw k hk).2.2,hk⟩
  ·rw [h1,hsa] at hk
   injection hk with hk
   exact .inr hk.symm
 have hS:Keep (fun k=>k=g) w3 (w3.setCell ⟨g,1,none⟩ (.slice A' n' c')):=Keep.set _ _ _ rfl
 refine⟨?_,?_,?_,?_,?_,.inl h.fg,.inl h.fl,h.ne,?_,?_,⟨h.ok.pos,h.ok.most,h.ok.sec,?_,h.ok.lo,h.ok.hi⟩⟩
 ·exact (hK.blk h.head fun hk=>(h.fw g hk).2.1 rfl).set 1 _
 ·exact hS.blk (hK.blk h.laid fun hk=>(h.fw gl hk).2.2 rfl) h.ne
 ·rw [wc_app]
  refine hS.own (by simpa [wc] using hown) fun k hk=>?_
  rcases ho' k hk with h1|h1
  ·exact h1.2.1
  ·omega
 ·simp [h.list]
 ·intro e he
  rcases List.mem_append.1 he with he|he
  ·obtain⟨h1,h2,h3,h4,h5⟩:=h.ent e he
   have hel:=h.lt _ h2
   refine⟨hS.rd (hK.rd h1 fun _ b o hb hk=>?_) fun _ b o hb hk=>?_,.inl h2,h3,h4,fun k hk he=>?_⟩
   ·injection hb with hb;injection hb with hb _
    exact h5 b hk hb
   ·injection hb with hb;injection hb with hb _
    exact h3 (hb.trans hk)
   ·rcases ho' k hk with h1|h1
    ·exact h5 k h1.2.2.2 he
    ·omega
  ·obtain rfl:=List.mem_singleton.1 he
   refine⟨hS.rd ((Keep.grown (F:=fun k=>(Value.slice A n c).ownBlock=some k) hg fun _ h=>h).rd (hR.alloc o) fun _ b' o' hb' hk=>?_) fun _ b' o' hb' hk=>?_,.inr (.inl rfl),?_,?_,fun k hk he=>?_⟩
   ·injection hb' with hb';injection hb' with hb' _
    have hb':b=b':=hb'
    have:=h.lt _ (h.fw _ hk).1
    omega
   ·injection hb' with hb';injection hb' with hb' _
    have hb':b=b':=hb'
    omega
   ·show b≠g
    omega
   ·show b≠gl
    omega
   ·have he:b=k:=he
    rcases ho' k hk with h1|h1
    ·have:=h.lt _ h1.1
     omega
    ·omega
 ·intro k hk
  refine⟨.inr (.inr hk),?_⟩
  rcases ho' k hk with h1|h1
  ·exact⟨h1.2.1,h1.2.2.1⟩
  ·omega
 ·intro k hk
  have hs4:(w3.setCell ⟨g,1,none⟩ (.slice A' n' c')).heap.size=w3.heap.size:=by simp [World.setCell]
  rw [hs4]
  rcases hk with hk|hk|hk
  ·have:=h.lt k hk;omega
  ·omega
  ·exact (hown.lt k hk).2
 ·intro p hp
  rcases List.mem_append.1 hp with hp|hp
  ·exact h.ok.wait p hp
  ·obtain rfl:=List.mem_singleton.1 hp
   exact⟨hi,hbs⟩
theorem At.added (h:At w F g s gl A n c E) (hb2:Bw w w2) (hg:(w2.alloc o).grownBy w3 (Value.slice A n c).ownBlock) (v:Value):Keep F w (w3.setCell ⟨g,1,none⟩ v):=
 ((grow_keep hb2 hg).mono fun k _ hk=>(h.fw k hk).1).trans (Keep.set (F:=F) w3 1 v h.fg) fun _ h=>.inl h
end
theorem At.frz {w w2 w3:World} {F:Nat→Prop} {g gl n c:Nat} {s:St} {A:Option Addr} {E:List Wr} {o:Obj} (h:At w F g s gl A n c E) (hb2:Bw w w2) (hg:(w2.alloc o).grownBy w3 (Value.slice A n c).ownBlock) (hn : ¬(Value.slice A n c).ownBlock=some g):w3.frozen? ⟨g,1,none⟩=false:=
 ((grow_keep hb2 hg).blk h.head hn).frozen 1
theorem new_cells (w:World) (cs:List Value) (t:TypeId):∀j u,cs[j]?=some u→(w.alloc (.cells cs.toArray t)).cell? ((⟨w.heap.size,0,none⟩:Addr).add j)=some u:=by
 intro j u hj
 rw [Addr.add_lit]
 exact (Blk.new w t cs).cell (by simpa using hj)
theorem wr_one (e:Wr):∀u ∈ e.cells,u.oneCell'=true:=by
 intro u hu
 simp only [Wr.cells,List.mem_cons,List.not_mem_nil,or_false] at hu
 rcases hu with rfl|rfl <;> rfl
theorem info_wr:(Tryz.prog.info? 119).map (fun i=>(i.zero,i.size,i.bytes))=some (some (.agg #[.int .i64 0,.slice none 0 0]),2,32):=by kernel_rfl
theorem write_down (F:Nat→Prop) (g:Nat) (s:St) (i:Int) (A:Option Addr) (c:Nat) (w:World) (hD:Dk w F g s) (hi:inB s i=true) (hs:(spend s).1=false) :
 Calls Tryz.prog 19 #[.pointer (some ⟨g,0,none⟩),.int .i64 i,.slice A 64 c] w (Got F g w (.int .i64 8) (spend s).2):=by
 have HC:=fun W h=>has_any F g s i W h
 rw [hi] at HC
 have HC':=Hz HC
 have HS:=fun W h=>U2 F g s W h
 rw [hs] at HS
 have HS':=Hz HS
 have Hi:=Hz hi
 have Hs:=Hz hs
 clear HC hi HS hs
 go_enter Tryz.func19,Tryz.ntmps19
 go_wp2_with (first
  | (go_at_call 42;refine (HC'.o _ hD).mono ?_;rintro e w' ⟨rfl,rfl⟩)
  | (go_at_call 44;refine (HS'.o _ hD).mono ?_;rintro e w' ⟨rfl,F1,hD1,hk1,hf1⟩))
 go_ret
 exact⟨rfl,F1,hD1,hk1,hf1⟩
theorem qjx {w w1 w2 w3:World} {F F1:Nat→Prop} {g gl n c n' c' b cb i base:Nat} {s s1:St} {A A':Option Addr} {E:List Wr} {bs:List Nat} {o:Obj}
 (h:At w1.drew F1 g s1 gl A n c E) (hsl:s1.L=s.L∧s1.S=s.S) (hk1:Keep F w w1) (hf1:∀k,F1 k→F k∨w.heap.size≤k) (hb2:Below w1.drew.heap.size w1.drew w2) (hob:w2.ownsRow base 5 1 (.slice (some ⟨b,0,none⟩) 64 cb) 64 (u8n bs))
 (hb:w1.drew.heap.size≤b) (hbl:b<w2.heap.size) (hg:(w2.alloc o).grownBy w3 (Value.slice A n c).ownBlock) (hat:(Value.slice A' n' c').ownBlock=(Value.slice A n c).ownBlock∨(Value.slice A' n' c').ownBlock=some (w2.alloc o).heap.size)
 (hown:w3.ownsRow 0 119 2 (.slice A' n' c') n' (wc E++Wr.cells ⟨i,b,cb,bs⟩)) (hi:i<s1.S.length) (hbs:bs.length=64) :
 Got F g w (.int .i64 0) ⟨s1.S,s.L++[(i,bs)],s1.fuse,s1.down⟩ (.returned (.int .i64 0)) (w3.setCell ⟨g,1,none⟩ (.slice A' n' c')):=by
 have h4:=At.add h hb2 (Rd.own hob) hb hbl hg hat hown hi hbs
 have hs:w.heap.size≤w1.heap.size:=hk1.size
 have hb:w1.heap.size≤b:=hb
 rw [hsl.1] at h4
 refine⟨rfl,_,⟨gl,A',n',c',_,h4⟩,(hk1.drew.trans (At.added h hb2 hg _) hf1),fun k hk=>?_⟩
 rcases hk with hk|hk|hk
 ·exact hf1 k hk
 ·exact .inr (by omega)
 ·rcases hat with h1|h1
  ·rw [h1] at hk
   exact hf1 k (h.fw k hk).1
  ·rw [h1] at hk
   injection hk with hk
   have hs2:w1.heap.size≤w2.heap.size:=hb2.size
   simp at hk
   exact .inr (by omega)
theorem write_ok (F:Nat→Prop) (g:Nat) (s:St) (i:Nat) (A:Option Addr) (c:Nat) (bs:List Nat) (w:World) (hD:Dk w F g s) (hi:i<s.S.length) (hR:Rd w A 64 c (u8n bs)) (hA:∀b o,A=some ⟨b,o,none⟩→¬F b) (hs:(spend s).1=true) (hL:s.L.length≤1000000000) :
 Calls Tryz.prog 19 #[.pointer (some ⟨g,0,none⟩),.int .i64 (i:Int),.slice A 64 c] w (Got F g w (.int .i64 0) { (spend s).2 with L:=s.L++[(i,bs)] }):=by
 have hin:inB s i=true:=by simp [inB,hi]
 have HC:=fun W h=>has_any F g s i W h
 rw [hin] at HC
 have HC':=Hz HC
 have HS:=fun W h=>U2 F g s W h
 rw [hs] at HS
 have HS':=Hz HS
 have Hi:=Hz hin
 have hSL:(spend s).2.L=s.L∧(spend s).2.S=s.S:=by
  unfold spend
  split
  ·exact⟨rfl,rfl⟩
  ·split
   ·exact⟨rfl,rfl⟩
   ·dsimp only
    split <;> exact⟨rfl,rfl⟩
 obtain⟨s1,hs1⟩:∃s1,s1=(spend s).2:=⟨_,rfl⟩
 rw [←hs1] at hSL HS' ⊢
 have HSL:=Hz hSL
 have HR:=Hz hR
 have HA:=Hz hA
 have Hbs:=Hz (show bs.length=64 from Rd.nats hR)
 have hi1:i<s1.S.length:=by rw [hSL.2];exact hi
 clear HC hin HS hs hs1 hSL hR hA hi
 obtain⟨i0,hi0,hz0,hz1,hz2⟩:=info_parts info_wr
 go_enter Tryz.func19,Tryz.ntmps19
 go_wp2_with (first
  | (go_at_call 42;refine (HC'.o _ hD).mono ?_;rintro e w' ⟨rfl,rfl⟩)
  | (go_at_call 44;refine (HS'.o _ hD).mono ?_;rintro e w1 ⟨rfl,F1,hD1,hk1,hf1⟩))
 obtain⟨gl,A1,n1,c1,E,h1⟩:=hD1
 obtain⟨_,k1,_,_⟩:=h1.cells
 have hn1:n1≤1000000000:=by rw [←h1.long,HSL.o.1];exact hL
 have hg1:=h1.lt g h1.fg
 have HR1:=Hz (show Rd w1.drew A 64 c (u8n bs) from hk1.rd HR.o fun _ b o h=>HA.o b o h)
 have H1:=Hz (show At w1.drew F1 g s1 gl A1 n1 c1 E from h1.keep (Keep.drew (Keep.refl (fun _=>False) w1)) fun _ _ h=>h)
 have hg1:g<w1.drew.heap.size:=hg1
 clear h1
 go_region_law (first
  | (rw [if_pos (by rfl)];go_simp;refine (clone_any A 64 c bs _ HR1.o (by omega) (by omega)).mono ?_;rintro e w2 ⟨B,nb,cb,hnb,rfl,hownb,hb2⟩;obtain rfl:nb=64:=hnb.o.trans Hbs.o;obtain⟨b,rfl,hbw,hbl⟩:=Zz hownb (by omega);have HOB:=Hz hownb;have HB2:=Hz hb2;have k2:=(hb2.cell (p:=⟨g,1,none⟩) hg1).trans H1.o.cells.2.1;have k2a:=((Mb w2.heap.size w2).alloc (Mr _) (.cells #[.int .i64 (i:Int),.slice (some ⟨b,0,none⟩) 64 cb] 119)).cell (p:=⟨g,1,none⟩) (by have:=hb2.size;simp;omega) |>.trans k2;clear hownb hb2 hnb;go_wp2_with fail)
  | (rw [if_pos (by rfl)];refine Q9 (.tmp 27) (.tmp 32) 86 rfl 0 119 i0 _ 2 32 Tryz.underlying86 hi0 hz0 hz1 hz2 rfl (by omega) (.slice A1 n1 c1) n1 (wc E) rfl (((Keep.of_below (F:=fun _=>False) HB2.o).own H1.o.own fun _ _ h=>h).alloc _) ⟨w2.heap.size,0,none⟩ 1 1 (Wr.cells ⟨i,b,cb,bs⟩) rfl rfl (new_cells w2 (Wr.cells ⟨i,b,cb,bs⟩) _) (wr_one _) (by unfold maxLen;omega) (by omega) (Nat.zero_le _) ?_;intro A3 n3 c3 w3 hn3 hown3 hg3 hat3;have Hg3:=Hz hg3;have k3:w3.cell? ⟨g,1,none⟩=some (.slice A1 n1 c1):=(World.cell?_of_block (hg3.block g (by have:=HB2.o.size;simp;omega) (fun h=>(H1.o.fw g h.symm).2.1 rfl))).trans k2a;have f3:w3.frozen? ⟨g,1,none⟩=false:=(At.frz H1.o HB2.o hg3 (fun h=>(H1.o.fw g h).2.1 rfl));clear hg3))
 all_goals
  go_wp2
  go_ret
  exact qjx H1.o HSL.o hk1 hf1 HB2.o HOB.o hbw hbl Hg3.o hat3.o hown3.o hi1 Hbs.o
end DskC
namespace DskD
open Go.Shelf Kit Byt Mem DskA DskB DskC
attribute [local go_sem] Oper.semAt_some
def upto {α:Type} (f:Nat→α) (k:Nat):List α:=(List.range k).map f
theorem upto_succ {α:Type} (f:Nat→α) (k:Nat):upto f (k+1)=upto f k++[f k]:=by simp [upto,List.range_succ]
theorem N4 {α:Type} (f:Nat→α) (k:Nat):(upto f k).length=k:=by simp [upto]
def Wr0:Wr:=⟨0,0,0,[]⟩
def back (E:List Wr) (n k:Nat):Nat×Wr:=(n-1-k,E.getD (n-1-k) Wr0)
def enc (x:Nat×Wr):Array Value:=#[.int .i64 (x.1:Int),.agg #[.int .i64 (x.2.at_:Int),.slice (some ⟨x.2.b,0,none⟩) 64 x.2.c]]
theorem qxa (F:Fence) (m:Nat) (h7:F.fn 123) (hro:F.round=none) (hm:1≤m) (l Bs n₀:Nat) (A:Option Addr) (n c:Nat) (E:List Wr) (hl:n≤1000000000) (hBs:Bs<n₀) (J Jx:List (Nat×Wr)→World→Prop)
 (hY:∀pre x W,J pre W→pre.length<n→YieldAt F (m-1) Tryz.prog l (enc x) W fun e W'=>
   (e=.returned (.bool true)∧J (pre++[x]) W'∧Below n₀ W W')∨(e=.returned (.bool false)∧Jx (pre++[x]) W'))
 (W:World) (hc:W.cell? ⟨Bs,0,none⟩=some (.slice A n c)) (hE:E.length=n) (hb:∀b,(Value.slice A n c).ownBlock=some b→b<n₀) (hown:W.ownsRow 0 119 2 (.slice A n c) n (wc E)) (h0:J [] W) :
 CallsIn F m Tryz.prog 123 #[.func (.yield l) #[] #[],.pointer (some ⟨Bs,0,none⟩)] W fun e W'=>(∃v,e=.returned v)∧
  ((∃ys,ys=upto (back E n) n∧J ys W')∨(∃pre,(∃k,k≤n∧pre=upto (back E n) k)∧Jx pre W')):=by
 have HE:=Hz hE
 have Hown:=Hz hown
 have Hb:=Hz hb
 clear hE hown hb
 refine callsIn_of_wp Tryz.func123 rfl h7 ?_ hro
 simp only [Tryz.ntmps123,List.size_toArray,List.length_cons,List.length_nil,Nat.reduceAdd,Nat.reduceSub,Array.replicate_succ,Array.replicate_zero,List.push_toArray,List.append_toArray,List.nil_append,List.cons_append]
 gi_wp2
 gi_loopw [3] (fun i wr=>∃k:Nat,k≤n∧i=.int .i64 ((n:Int)-1-(k:Int))∧J (upto (back E n) k) wr∧Below n₀ W wr)
  (fun i _=>(intOf i+1).toNat)
 case atStart=>exact⟨0,Nat.zero_le _,by simp,h0,Mb _ _⟩
 case round=>
  obtain⟨k,hk,rfl,hJs,hnx⟩:=hrel
  have hcr:=(hnx.cell (p:=⟨Bs,0,none⟩) hBs).trans hc
  by_cases hlt:k<n
  ·obtain⟨b,hA,_,_⟩:=Zz Hown.o (by omega)
   subst hA
   have hbn:b<n₀:=Hb.o b rfl
   have hw:=wc_at (E:=E) (k:=n-1-k) (by rw [HE.o];omega)
   have g0:wr.cell? ⟨b,(n-1-k)*2,none⟩=some (.int .i64 ((E.getD (n-1-k) Wr0).at_:Int)):=by
    rw [hnx.cell (p:=⟨b,(n-1-k)*2,none⟩) hbn,Hown.o.cellAt _ (by omega),Nat.mul_comm,hw.1]
    simp [HE.o,show n-1-k<n by omega]
   have g1:wr.cell? ⟨b,(n-1-k)*2+1,none⟩=some (.slice (some ⟨(E.getD (n-1-k) Wr0).b,0,none⟩) 64 (E.getD (n-1-k) Wr0).c):=by
    rw [hnx.cell (p:=⟨b,(n-1-k)*2+1,none⟩) hbn,Hown.o.cellAt _ (by omega),Nat.mul_comm,hw.2]
    simp [HE.o,show n-1-k<n by omega]
   clear hw
   obtain⟨q,hq⟩:∃q:Nat,q=n-1-k:=⟨_,rfl⟩
   have hq1:(n:Int)-1-(k:Int)=(q:Int):=by omega
   obtain⟨fn,tmps,assign,body,hy,hR⟩:=hY _ (back E n k) wr hJs (by rw [N4];exact hlt)
   have hy1:back E n k=(q,E.getD q Wr0):=by rw [hq];rfl
   rw [hy1] at hy
   rw [←hq] at g0 g1
   simp only [enc] at hy
   have hqn:q<n:=by omega
   have Hq:=Hz hq
   have Hy1:=Hz hy1
   clear hq hy1
   rw [hq1]
   have Hq1:=Hz hq1
   clear hq1
   obtain⟨X,hX⟩:∃X,X=E.getD q Wr0:=⟨_,rfl⟩
   rw [←hX] at g0 g1 hy
   have HX:=Hz hX
   clear hX
   gi_wp2
   refine hR.mono ?_
   rintro e W3 (⟨rfl,hJ3,hk3⟩|⟨rfl,hJx3⟩)
   ·gi_wp2
    go_roundw
    case rel=>exact⟨k+1,by omega,congrArg (Value.int .i64) (by have:=Hq1.o;omega),by rw [upto_succ];exact hJ3,hnx.trans hk3⟩
    case measure=>simp [intOf] <;> omega
   ·gi_wp2
    refine bodyPost_ret (results_none rfl _ _ _) rfl ?_
    exact⟨⟨_,rfl⟩,.inr ⟨_,⟨k+1,by omega,(upto_succ _ _).symm⟩,hJx3⟩⟩
  ·obtain rfl:k=n:=by omega
   gi_wp2
   go_end0
   exact⟨⟨_,rfl⟩,.inl ⟨_,rfl,hJs⟩⟩
theorem back_in (F:Fence) (m:Nat) (h5:F.fn 79) (hro:F.round=none) (a:Option Addr) (len cap:Nat) (w:World) :
 CallsIn F m Tryz.prog 79 #[.slice a len cap] w fun e w'=>e=.returned (.func (.func 123) #[] #[.pointer (some ⟨w.heap.size,0,none⟩)])∧w'=w.alloc (.cells #[.slice a len cap] 86):=by
 refine callsIn_of_wp Tryz.func79 rfl h5 ?_ hro
 simp only [Tryz.ntmps79,List.size_toArray,List.length_cons,List.length_nil,Nat.reduceAdd,Nat.reduceSub,Array.replicate_succ,Array.replicate_zero,List.push_toArray,List.append_toArray,List.nil_append,List.cons_append]
 gi_wp2
 go_ret
 exact⟨rfl,rfl⟩
theorem back_stops (F:Fence) (m:Nat) (h7:F.fn 123) (hro:F.round=none) (hm:1≤m) (Bs:Nat) (A:Option Addr) (n c:Nat) (E:List Wr) (hl:n≤1000000000) (w:World) (hBs:Bs<w.heap.size)
 (hc:w.cell? ⟨Bs,0,none⟩=some (.slice A n c)) (hE:E.length=n) (hown:w.ownsRow 0 119 2 (.slice A n c) n (wc E)) :
 SeqStopsK F m Tryz.prog 123 #[.pointer (some ⟨Bs,0,none⟩)] enc (Below w.heap.size) (fun ys=>ys=upto (back E n) n)
  (fun pre=>∃k,k≤n∧pre=upto (back E n) k) n w:=fun l J Jx W hW _ _ hY h0=>
 qxa F m h7 hro hm l Bs w.heap.size A n c E hl hBs J Jx hY W ((hW.cell (p:=⟨Bs,0,none⟩) hBs).trans hc) hE (fun b hb=>(hown.lt b hb).2) ((Keep.of_below (F:=fun _=>False) hW).own hown fun _ _ h=>h) h0
def now (s:St) (i:Nat):List Nat:=match s.L.reverse.find? (fun p=>p.1==i) with
 | some p=>p.2
 | none=>s.S.getD i []
theorem qxb {E:List Wr} {k:Nat} (h:k<E.length):E.getD (E.length-1-k) Wr0=E.reverse[k]'(by simpa using h):=by
 rw [List.getElem_reverse,Mg,Mq (by omega)]
 rfl
theorem qqa {E:List Wr} {n:Nat} (hE:E.length=n):∀k,k≤n→(upto (back E n) k).map (·.2)=E.reverse.take k:=by
 subst hE
 intro k
 induction k with
 | zero=>intro _;rfl
 | succ k ih=>
   intro hk
   rw [upto_succ,List.map_append,ih (by omega),List.take_succ_eq_append_getElem (by simp;omega)]
   simp only [List.map_cons,List.map_nil,back]
   rw [qxb (by omega)]
theorem qxc {s:St} {E:List Wr} {i:Nat} (hl:s.L=E.map fun e=>(e.at_,e.bs)) (h:∀e ∈ E,e.at_≠i):now s i=s.S.getD i []:=by
 have:s.L.reverse.find? (fun p=>p.1==i)=none:=by
  rw [List.find?_eq_none]
  intro p hp
  rw [List.mem_reverse,hl,List.mem_map] at hp
  obtain⟨e,he,rfl⟩:=hp
  simpa using h e he
 rw [now,this]
theorem qxd {s:St} {E X Y:List Wr} {e:Wr} {i:Nat} (hl:s.L=E.map fun e=>(e.at_,e.bs)) (hE:E.reverse=X++[e]++Y) (hX:∀x ∈ X,x.at_≠i) (he:e.at_=i):now s i=e.bs:=by
 have:s.L.reverse.find? (fun p=>p.1==i)=some (e.at_,e.bs):=by
  rw [hl,←List.map_reverse,hE,List.map_append,List.map_append,List.find?_append,List.find?_append]
  have h0:(X.map fun e=>(e.at_,e.bs)).find? (fun p=>p.1==i)=none:=by
   rw [List.find?_eq_none]
   intro p hp
   rw [List.mem_map] at hp
   obtain⟨x,hx,rfl⟩:=hp
   simpa using hX x hx
  rw [h0]
  simp [he]
 rw [now,this]
theorem flat_at {S:List (List Nat)} (h:∀x ∈ S,x.length=64):∀{i:Nat},i<S.length→(S.flatten.drop (i*64)).take 64=S.getD i []:=by
 induction S with
 | nil=>intro i hi;simp at hi
 | cons x S ih=>
   intro i hi
   have hx:=h x (by simp)
   cases i with
   | zero=>rw [Nat.zero_mul,List.drop_zero,List.flatten_cons,List.take_append_of_le_length (by omega),Mt (by omega)];rfl
   | succ i=>
     have:=ih (fun y hy=>h y (by simp [hy])) (i:=i) (by simpa using hi)
     rw [List.flatten_cons,List.drop_append,List.drop_of_length_le (by omega),List.nil_append,hx,show (i+1)*64-64=i*64 by omega,this]
     simp
theorem sec_rd {w:World} {gl:Nat} {t:TypeId} {S:List (List Nat)} (hB:Blk w gl t (u8n S.flatten)) (h:∀x ∈ S,x.length=64) {i:Nat} (hi:i<S.length):Rd w (some ⟨gl,i*64,none⟩) 64 64 (u8n (S.getD i [])):=by
 have hl:(S.getD i []).length=64:=by
  have:S.getD i []=S[i]:=by simp [hi]
  rw [this]
  exact h _ (Me_ _)
 have hr:=hB.range (off:=i*64) (cs:=u8n (S.getD i [])) (by
  rw [Qv,hl,←flat_at h hi]
  simp [u8n])
 exact⟨by rw [Qv,hl],Mr _,by omega,fun _=>⟨gl,i*64,rfl,hB.lt,hr⟩⟩
theorem J0 {B₀ Bx:Nat} {t:TypeId} {xs:List Value} {A B:World} {row:Option Nat} (h:Blk A Bx t xs) (hg:A.grownBy B row) (hr:∀r,row=some r→B₀≤r∧∃o:Obj,A.heap[r]?=some o∧o.isCells=false):Blk B Bx t xs:=
 (hg.block Bx h.lt fun he=>by
   obtain⟨_,o,ho,hc⟩:=hr Bx he.symm
   rw [show A.heap[Bx]?=some _ from h] at ho
   injection ho with ho
   subst ho
   simp [Obj.isCells] at hc).trans h
theorem last_in (Fn:Fence) (m:Nat) (h3:Fn.fn 43) (h5:Fn.fn 79) (h7:Fn.fn 123) (hro:Fn.round=none) (hm:3≤m)
 (F:Nat→Prop) (g:Nat) (s:St) (gl:Nat) (A:Option Addr) (n c:Nat) (E:List Wr) (i:Nat) (w:World) (h:At w F g s gl A n c E) (hi:i<s.S.length) (hL:n≤1000000000) :
 CallsIn Fn m Tryz.prog 43 #[.pointer (some ⟨g,0,none⟩),.int .i64 (i:Int)] w fun e w'=>∃b o c,e=.returned (.slice (some ⟨b,o,none⟩) 64 c)∧Rd w (some ⟨b,o,none⟩) 64 c (u8n (now s i))∧Bw w w':=by
 obtain⟨c0,c1,_,_⟩:=h.cells
 have hgw:=h.lt g h.fg
 have hp:=h.ok.pos
 have hmo:=h.ok.most
 obtain⟨N,hN⟩:∃N,N=s.S.length:=⟨_,rfl⟩
 rw [←hN] at c0 hp hmo hi
 have HN:=Hz hN
 have H:=Hz h
 clear h hN
 have h1:1≤m:=by omega
 refine callsIn_of_wp_marks Tryz.func43 rfl h3 ?_ hro
 simp only [Tryz.ntmps43,List.size_toArray,List.length_cons,List.length_nil,Nat.reduceAdd,Nat.reduceSub,Array.replicate_succ,Array.replicate_zero,List.push_toArray,List.append_toArray,List.nil_append,List.cons_append]
 gi_wp2_with (gi_at_call 79;refine (back_in Fn (m-1) h5 hro _ _ _ _).mono ?_;rintro e w' ⟨rfl,rfl⟩)
 have bI:Blk (((w.alloc (.cells #[.int .i64 (i:Int)] 3)).alloc (.cells #[.slice none 0 0] 31)).alloc (.cells #[.slice A n c] 86)) w.heap.size 3 [.int .i64 (i:Int)]:=((Blk.new w _ _).alloc _).alloc _
 have bR:Blk (((w.alloc (.cells #[.int .i64 (i:Int)] 3)).alloc (.cells #[.slice none 0 0] 31)).alloc (.cells #[.slice A n c] 86)) (w.heap.size+1) 31 [.slice none 0 0]:=by
  have h:=(Blk.new (w.alloc (.cells #[.int .i64 (i:Int)] 3)) 31 [.slice none 0 0]).alloc (.cells #[.slice A n c] 86)
  rwa [Ms] at h
 have bN:Blk (((w.alloc (.cells #[.int .i64 (i:Int)] 3)).alloc (.cells #[.slice none 0 0] 31)).alloc (.cells #[.slice A n c] 86)) (w.heap.size+2) 86 [.slice A n c]:=by
  have h:=Blk.new ((w.alloc (.cells #[.int .i64 (i:Int)] 3)).alloc (.cells #[.slice none 0 0] 31)) 86 [.slice A n c]
  rwa [Ms,Ms] at h
 have hB0:Bw w (((w.alloc (.cells #[.int .i64 (i:Int)] 3)).alloc (.cells #[.slice none 0 0] 31)).alloc (.cells #[.slice A n c] 86)):=(((Mb _ w).alloc (Mr _) _).alloc (by simp) _).alloc (by simp;omega) _
 have hsz:(((w.alloc (.cells #[.int .i64 (i:Int)] 3)).alloc (.cells #[.slice none 0 0] 31)).alloc (.cells #[.slice A n c] 86)).heap.size=w.heap.size+3:=by simp
 obtain⟨W0,hW0⟩:∃W0,((w.alloc (.cells #[.int .i64 (i:Int)] 3)).alloc (.cells #[.slice none 0 0] 31)).alloc (.cells #[.slice A n c] 86)=W0:=⟨_,rfl⟩
 rw [hW0] at bI bR bN hB0 hsz ⊢
 clear hW0
 refine wpIn_rangeFunc_ownH hro h1 (gf:=123) (lb:=#[.pointer (some ⟨w.heap.size+1+1,0,none⟩)]) rfl h7 (enters_of Tryz.func123 (by kernel_rfl) rfl)
  (back_stops Fn (m-1) h7 hro (by omega) (w.heap.size+1+1) A n c E hL W0 (by omega) (bN.cell rfl) H.o.len ((Keep.of_below (F:=fun _=>False) hB0).own H.o.own fun _ _ h=>h)) belowK_t (belowK_b (Mr _)) (Mb _ _) (fun _=>rfl)
  (fun pre W=>(∀p ∈ pre,p.2.at_≠i)∧Bw W0 W)
  (fun cd pre W=>(cd=.ret∧∃ini last,pre=ini++[last]∧(∀p ∈ ini,p.2.at_≠i)∧last.2.at_=i∧Blk W (w.heap.size+1) 31 [.slice (some ⟨last.2.b,0,none⟩) 64 last.2.c])∧Bw w W)
  (OwnFrom.and (fun _ _ _ _ hs _ _=>hs) (ownFrom_below (Mr _) (Mr _)))
  (fun cd=>OwnFrom.and (fun _ _ _ _ hs hg hr=>by obtain⟨hc,ini,last,e1,e2,e3,e4⟩:=hs;exact⟨hc,ini,last,e1,e2,e3,J0 e4 hg hr⟩) (ownFrom_below (Mr _) (by omega)))
  ⟨by simp,Mb _ _⟩
  (fun x a' W=>∃Bx,w.heap.size+1<Bx∧Blk W Bx 119 x.2.cells∧a' = { tmps:=#[.pointer (some ⟨g,0,none⟩),.int .i64 (i:Int),undef,.pointer (some ⟨w.heap.size,0,none⟩),.pointer (some ⟨w.heap.size+1,0,none⟩),undef,.pointer (some ⟨Bx,0,none⟩),.pointer (some ⟨g,0,none⟩),.pointer (some ⟨g,0,none⟩),.pointer (some ⟨g,1,none⟩),.slice A n c,.func (.func 123) #[] #[.pointer (some ⟨w.heap.size+1+1,0,none⟩)],.int .i64 (x.1:Int),.agg #[.int .i64 (x.2.at_:Int),.slice (some ⟨x.2.b,0,none⟩) 64 x.2.c],undef,undef,undef,undef,undef,undef,undef,undef,undef,undef,undef,undef,undef],defers:=[] })
  (fun x a' _ X Y row hs hg hr=>by obtain⟨Bx,h1,h2,h3⟩:=hs;exact⟨Bx,h1,J0 h2 hg hr,h3⟩)
  ?assign ?body ?done ?stop
 case assign=>
  rintro l pre x W K ⟨hp1,hB1⟩ hK
  have hs1:=hB1.size
  simp only [enc]
  gi_wp2
  refine hK _ _ ?_ ?_ ⟨hp1,?_⟩ ⟨W.heap.size,by omega,?_,rfl⟩
  ·exact (KeepsOthers.alloc _ _).from _
  ·exact (Mb _ W).alloc hs1 _
  ·exact hB1.alloc hs1 _
  ·exact Blk.new W 119 x.2.cells
 case body=>
  rintro l pre x a' W hl ⟨r,hr⟩ ⟨hp1,hB1⟩ ⟨Bx,hBx,bX,rfl⟩ hlt
  have cI:=(bI.below hB1).cell (i:=0) rfl
  have bR1:=bR.below hB1
  have cR:=bR1.cell (i:=0) rfl
  have fR:=bR1.frozen 0
  have cX0:W.cell? ⟨Bx,0,none⟩=some (.int .i64 (x.2.at_:Int)):=bX.cell rfl
  have cX1:W.cell? ⟨Bx,1,none⟩=some (.slice (some ⟨x.2.b,0,none⟩) 64 x.2.c):=bX.cell rfl
  have BR1:=Hz bR1
  clear bR1
  by_cases hxi:x.2.at_=i
  ·have ht:((x.2.at_:Int)==(i:Int))=true:=by simp;omega
   have Hxi:=Hz hxi
   clear hxi
   gi_wp2
   exact⟨(KeepsOthers.setCell _ _ _).from _,⟨rfl,pre,x,rfl,hp1,Hxi.o,BR1.o.set 0 _⟩,((hB0.trans (hB1.mono hB0.size)).setCell (by simp) _)⟩
  ·have ht:((x.2.at_:Int)==(i:Int))=false:=by simp;omega
   have Hxi:=Hz hxi
   clear hxi
   gi_wp2
   exact⟨KeepsFrom.refl _ _,Mb _ _,fun p hp=>(List.mem_append.1 hp).elim (hp1 p) (fun e=>by simp at e;subst e;exact Hxi.o),hB1⟩
 case done=>
  rintro D ys W hD rfl ⟨hp1,hB1⟩ hK
  have cI:=(bI.below hB1).cell (i:=0) rfl
  have bR1:=bR.below hB1
  have cR:=bR1.cell (i:=0) rfl
  have fR:=bR1.frozen 0
  have hBw:=hB0.trans (hB1.mono hB0.size)
  have d0:=(hBw.cell (p:=⟨g,0,none⟩) hgw).trans c0
  have BR1:=Hz bR1
  have HBw:=Hz hBw
  have Hp1:=Hz hp1
  clear bR1 hBw hp1
  gi_wp2
  gi_region
  all_goals
   gi_wp2
   have hK':=(KeepsOthers.setCell W ⟨w.heap.size+1,0,none⟩ (.slice (some ⟨gl,i*64,none⟩) 64 64)).same D _ hK rfl
   refine⟨by simp,.inl ⟨_,_,rfl,run_takeDeferred hK',?_⟩⟩
   have hc4:=cell_kept (World.cell?_setCell_same' W ⟨w.heap.size+1,0,none⟩ (.slice (some ⟨gl,i*64,none⟩) 64 64) (by rw [cR];rfl)) (grownBy_putObj' _ D (.deferred none)) (fun r e=>by cases e;exact⟨_,hK',rfl⟩)
   have hc5:((W.setCell ⟨w.heap.size+1,0,none⟩ (.slice (some ⟨gl,i*64,none⟩) 64 64)).drew.putObj D (.deferred none)).cell? ⟨w.heap.size+1,0,none⟩=some (.slice (some ⟨gl,i*64,none⟩) 64 64):=hc4
   refine⟨.slice (some ⟨gl,i*64,none⟩) 64 64,?_,gl,i*64,64,rfl,?_,?_⟩
   ·simp [results,Tryz.f43,go_sem,hc5]
   ·rw [qxc H.o.list fun e he=>?_]
    ·exact sec_rd H.o.laid H.o.ok.sec (by rw [←HN.o];exact hi)
    ·have hm:e ∈ (upto (back E n) n).map (·.2):=by
      rw [qqa H.o.len n (Mr _),Mt (by simp [H.o.len])]
      simpa using he
     obtain⟨p,hp,rfl⟩:=List.mem_map.1 hm
     exact Hp1.o p hp
   ·exact ((HBw.o.setCell (by simp) _).drew).trans (belowK_b (w:=w) (Mr _) _ D _ _ (by omega) hK' rfl rfl)
 case stop=>
  rintro D cd pre W hD ⟨k,hk,rfl⟩ ⟨⟨rfl,ini,last,e1,e2,e3,bR1⟩,hB1⟩ hK
  have cR:=bR1.cell (i:=0) rfl
  have E1:=Hz e1
  have E2:=Hz e2
  have E3:=Hz e3
  clear e1 e2 e3
  gi_wp2
  refine⟨by simp,.inl ⟨_,_,rfl,run_takeDeferred hK,?_⟩⟩
  have hc5:=cell_kept cR (grownBy_putObj' _ D (.deferred none)) (fun r e=>by cases e;exact⟨_,hK,rfl⟩)
  have hmap:=congrArg (List.map (·.2)) E1.o
  rw [qqa H.o.len k hk] at hmap
  have hrev:E.reverse=ini.map (·.2)++[last.2]++E.reverse.drop k:=by
   have ht:=List.take_append_drop k E.reverse
   rw [hmap,List.map_append] at ht
   exact ht.symm
  have hmem:last.2 ∈ E:=by
   rw [←List.mem_reverse,hrev]
   simp
  refine⟨.slice (some ⟨last.2.b,0,none⟩) 64 last.2.c,?_,last.2.b,0,last.2.c,rfl,?_,?_⟩
  ·simp [results,Tryz.f43,go_sem,hc5]
  ·rw [qxd H.o.list hrev (fun x hx=>?_) E3.o]
   ·exact (H.o.ent _ hmem).1
   ·obtain⟨p,hp,rfl⟩:=List.mem_map.1 hx
    exact E2.o p hp
  ·exact hB1.trans (belowK_b (w:=w) (Mr _) W D _ _ (by omega) hK rfl rfl)
theorem last_any (F:Nat→Prop) (g:Nat) (s:St) (i:Nat) (w:World) (hD:Dk w F g s) (hi:i<s.S.length) (hL:s.L.length≤1000000000) :
 Calls Tryz.prog 43 #[.pointer (some ⟨g,0,none⟩),.int .i64 (i:Int)] w fun e w'=>∃b o c,e=.returned (.slice (some ⟨b,o,none⟩) 64 c)∧Rd w (some ⟨b,o,none⟩) 64 c (u8n (now s i))∧Bw w w':=by
 obtain⟨gl,A,n,c,E,h⟩:=hD
 exact callsIn_wide.1 (last_in Fence.wide 3 trivial trivial trivial rfl (by omega) F g s gl A n c E i w h hi (by rw [←h.long];exact hL))
theorem read_down (F:Nat→Prop) (g:Nat) (s:St) (i:Int) (w:World) (hD:Dk w F g s) (hi:inB s i=true) (hd:s.down=true) :
 Calls Tryz.prog 18 #[.pointer (some ⟨g,0,none⟩),.int .i64 i] w fun e w'=>e=.returned (.tuple #[.slice none 0 0,.int .i64 8])∧w=w':=by
 have HC:=fun W h=>has_any F g s i W h
 rw [hi] at HC
 have HC':=Hz HC
 have Hi:=Hz hi
 obtain⟨gl,A,n,c,E,h⟩:=hD
 obtain⟨_,_,_,c3⟩:=h.cells
 rw [hd] at c3
 have hD:=Hz (show Dk w F g s from⟨gl,A,n,c,E,h⟩)
 have Hd:=Hz hd
 clear HC hi hd h
 go_enter Tryz.func18,Tryz.ntmps18
 go_wp2_with (go_at_call 42;refine (HC'.o _ hD.o).mono ?_;rintro e w' ⟨rfl,rfl⟩)
 go_ret2
 exact⟨rfl,rfl⟩
def Told (w:World) (xs:List Nat) (e:Ending) (w':World):Prop:=
 ∃A,e=.returned (.tuple #[.slice A 64 64,.int .i64 0])∧w'.ownsRow w.heap.size 5 1 (.slice A 64 64) 64 (u8n xs)∧Bw w w'
theorem read_ok (F:Nat→Prop) (g:Nat) (s:St) (i:Nat) (w:World) (hD:Dk w F g s) (hi:i<s.S.length) (hd:s.down=false) (hL:s.L.length≤1000000000) :
 Calls Tryz.prog 18 #[.pointer (some ⟨g,0,none⟩),.int .i64 (i:Int)] w (Told w (now s i)):=by
 obtain⟨i0,hi0,hz0,hz1,hz2⟩:=info_parts info8
 have hin:inB s i=true:=by simp [inB,hi]
 have HC:=fun W h=>has_any F g s i W h
 rw [hin] at HC
 have HC':=Hz HC
 have Hi:=Hz hin
 obtain⟨gl,A,n,c,E,h⟩:=hD
 obtain⟨_,_,_,c3⟩:=h.cells
 rw [hd] at c3
 have hD:=Hz (show Dk w F g s from⟨gl,A,n,c,E,h⟩)
 have Hd:=Hz hd
 have HL:=Hz hL
 clear HC hin hd h hL
 go_enter Tryz.func18,Tryz.ntmps18
 go_wp2_with (first
  | (go_at_call 42;refine (HC'.o _ hD.o).mono ?_;rintro e w' ⟨rfl,rfl⟩)
  | (refine Qx _ rfl _ _ 31 rfl 5 i0 (.int .u8 0) 1 Tryz.underlying31 hi0 hz0 hz1 hz2 rfl .i64 .i64 64 64 64 64 rfl rfl rfl rfl (by omega) (by omega) (by omega) ?_;intro w1 hB1 hb1 hs1)
  | (go_at_call 43;refine (last_any F g s i _ (hD.o.below hb1) hi HL.o).mono ?_;rintro e w2 ⟨b,o,c2,rfl,hR2,hb2⟩;have HR2:=Hz (hR2.below hb2);have HB2:=Hz ((show Blk w1 w.heap.size 5 (u8n (zs 64)) from by have:=hB1.o;simpa [Blk,u8n,zs] using this).below hb2))
  | (refine Ql rfl (.tmp 21) (.tmp 24) 31 31 rfl 5 Tryz.underlying31 size8 w.heap.size 0 64 64 rfl rfl HR2.o (u8n_one _) HB2.o (by rw [Qv,zs_len];omega) ?_;intro w3 m hm hB3 ho3))
 go_ret2
 have hlen:(now s i).length=64:=Rd.nats HR2.o
 have hm':m=64:=hm.o
 subst hm'
 have hB4:=hB3.o
 rw [Mt (by rw [Qv,hlen];omega),Zt (by rw [Qv,Qv,zs_len,hlen])] at hB4
 refine⟨_,rfl,?_,ho3.o.below (hb1.trans (hb2.mono hb1.size)) (Mr _) (by have:=hb1.size;have:=hb2.size;omega)⟩
 have h':=Q0 (base:=w.heap.size) (n:=64) (cur:=u8n (now s i)) hB4 (Mr _) (by rw [Qv,hlen];omega) (by rw [Qv,hlen];omega)
 rw [Mt (by rw [Qv,hlen];omega),Qv,hlen] at h'
 exact h'
end DskD
namespace DskE
open Kit Byt Mem DskA DskB DskC
def laidTo (kp:Nat→Bool) (S:List (List Nat)) (L:List (Nat×List Nat)):Nat→List (List Nat)
 | 0=>S
 | k+1=>if kp k then (laidTo kp S L k).set (L.getD k (0,[])).1 (L.getD k (0,[])).2 else laidTo kp S L k
theorem Zj (kp:Nat→Bool) (S:List (List Nat)) (L:List (Nat×List Nat)) (k:Nat):(laidTo kp S L k).length=S.length:=by
 induction k with
 | zero=>rfl
 | succ k ih=>
   rw [laidTo]
   split
   ·rw [List.length_set,ih]
   ·exact ih
theorem qq1 {kp:Nat→Bool} {S:List (List Nat)} {L:List (Nat×List Nat)} (hS:∀x ∈ S,x.length=64) (hL:∀p ∈ L,p.2.length=64) (k:Nat) (hk:k≤L.length):∀x ∈ laidTo kp S L k,x.length=64:=by
 induction k with
 | zero=>exact hS
 | succ k ih=>
   rw [laidTo]
   split
   ·intro x hx
    rcases List.mem_or_eq_of_mem_set hx with h|h
    ·exact ih (by omega) x h
    ·subst h
     have hk':k<L.length:=by omega
     have:L.getD k (0,[])=L[k]:=by simp [hk']
     rw [this]
     exact hL _ (Me_ _)
   ·exact ih (by omega)
def lay (kp:Nat→Bool) (s:St):St:={ s with S:=laidTo kp s.S s.L s.L.length,L:=[] }
theorem qxe {S:List (List Nat)} (h:∀x ∈ S,x.length=64):S.flatten.length=S.length*64:=by
 induction S with
 | nil=>rfl
 | cons x S ih=>rw [List.flatten_cons,Ma,h x (by simp),ih fun y hy=>h y (by simp [hy])];simp;omega
theorem qxf {S:List (List Nat)} (h:∀x ∈ S,x.length=64) {ys:List Nat} (hy:ys.length=64):∀{i:Nat},i<S.length→splice S.flatten (i*64) ys=(S.set i ys).flatten:=by
 induction S with
 | nil=>intro i hi;simp at hi
 | cons x S ih=>
   intro i hi
   have hx:=h x (by simp)
   cases i with
   | zero=>
     rw [List.set_cons_zero,List.flatten_cons,List.flatten_cons,splice,Nat.zero_mul,List.take_zero,List.nil_append,Nat.zero_add,hy,List.drop_append_of_le_length (by omega),List.drop_of_length_le (by omega),List.nil_append]
   | succ i=>
     have:=ih (fun y hy=>h y (by simp [hy])) (i:=i) (by simpa using hi)
     rw [List.set_cons_succ,List.flatten_cons,List.flatten_cons,←this,splice,splice,show (i+1)*64=x.length+i*64 by omega,List.take_length_add_append,Nat.add_assoc,List.drop_length_add_append,List.append_assoc]
theorem Yy (xs ys:List Nat) (o:Nat):splice (u8n xs) o (u8n ys)=u8n (splice xs o ys):=by simp [splice,u8n]
section
variable {w w':World} {F:Nat→Prop} {g gl n c:Nat} {s:St} {A:Option Addr} {E:List Wr}
theorem At.laid_ (h:At w F g s gl A n c E) {S':List (List Nat)} (hB:Blk w' gl 157 (u8n S'.flatten)) (k:Keep (fun j=>j=gl) w w') (hl:S'.length=s.S.length) (hs:∀x ∈ S',x.length=64):At w' F g { s with S:=S' } gl A n c E:=
 ⟨by rw [show ({ s with S:=S' }:St).S.length=s.S.length from hl];exact k.blk h.head (Ne.symm h.ne),hB,k.own h.own fun i hi=>(h.fw i hi).2.2,h.list,fun e he=>by
  obtain⟨h1,h2,h3,h4,h5⟩:=h.ent e he
  exact⟨k.rd h1 fun _ b o hb=>by injection hb with hb;injection hb with hb _;exact hb▸h4,h2,h3,h4,h5⟩,
  h.fg,h.fl,h.ne,h.fw,fun i hi=>Mw (h.lt i hi) k.size,
  ⟨by rw [show ({ s with S:=S' }:St).S.length=s.S.length from hl];exact h.ok.pos,by rw [show ({ s with S:=S' }:St).S.length=s.S.length from hl];exact h.ok.most,hs,fun p hp=>by rw [show ({ s with S:=S' }:St).S.length=s.S.length from hl];exact h.ok.wait p hp,h.ok.lo,h.ok.hi⟩⟩
theorem own_cut {base size:Nat} {e:TypeId} {xs:List Value} (h:w.ownsRow base e size (.slice A n c) n xs):w.ownsRow base e size (.slice A 0 c) 0 []:=by
 refine⟨by simp,?_⟩
 rcases h.2 with⟨hv,h0⟩|⟨g,cap',cur,hv,hb,hh,hnc,hcm,hcs,_⟩
 ·simp only [Value.slice.injEq] at hv
  obtain⟨rfl,_,rfl⟩:=hv
  exact .inl ⟨rfl,rfl⟩
 ·simp only [Value.slice.injEq] at hv
  obtain⟨rfl,_,rfl⟩:=hv
  exact .inr ⟨g,c,cur,rfl,hb,hh,Nat.zero_le _,hcm,hcs,by simp⟩
theorem ob_any {n':Nat}:(Value.slice A n' c).ownBlock=(Value.slice A n c).ownBlock:=by cases A <;> rfl
theorem At.emptied {w1 w2:World} (h:At w F g s gl A n c E) (hk:Keep (fun j=>(Value.slice A n c).ownBlock=some j) w w1) {ys:List Value} (ho:w1.ownsRow 0 119 2 (.slice A n c) n ys) (hw2:w2=w1.setCell ⟨g,1,none⟩ (.slice A 0 c)):At w2 F g { s with L:=[] } gl A 0 c []:=by
 subst hw2
 have hks:=hk.size
 have hS:Keep (fun k=>k=g) w1 (w1.setCell ⟨g,1,none⟩ (.slice A 0 c)):=Keep.set _ _ _ rfl
 refine⟨(hk.blk h.head fun hk=>(h.fw g hk).2.1 rfl).set 1 _,hS.blk (hk.blk h.laid fun hk=>(h.fw gl hk).2.2 rfl) h.ne,hS.own (own_cut ho) (fun k hk=>?_),rfl,by simp,h.fg,h.fl,h.ne,fun k hk=>?_,fun k hk=>?_,⟨h.ok.pos,h.ok.most,h.ok.sec,by simp,h.ok.lo,h.ok.hi⟩⟩
 ·rw [ob_any (n:=n)] at hk
  exact (h.fw k hk).2.1
 ·rw [ob_any (n:=n)] at hk
  exact h.fw k hk
 ·have h1:=h.lt k hk
  have h2:=Mw h1 hks
  simpa [World.setCell] using h2
end
theorem zero_wr (w:World):(zeroValue 119).run Tryz.prog w=.ok (.agg #[.int .i64 0,.slice none 0 0]) w:=by kernel_rfl
theorem Zv:∀u ∈ [Value.int .i64 0,Value.slice none 0 0],u.oneCell'=true:=by
 intro u hu
 simp only [List.mem_cons,List.not_mem_nil,or_false] at hu
 rcases hu with rfl|rfl <;> rfl
def Inv (w:World) (F:Nat→Prop) (g:Nat) (s:St) (gl:Nat) (A:Option Addr) (n c:Nat) (E:List Wr) (kp:Nat→Bool) (k:Nat) (wr:World):Prop:=
 At wr F g { s with S:=laidTo kp s.S s.L k } gl A n c E∧Keep (fun j=>j=gl) w wr
theorem ent_at {w:World} {F:Nat→Prop} {g gl n c:Nat} {s:St} {A:Option Addr} {E:List Wr} (h:At w F g s gl A n c E) {k:Nat} (hk:k<n) (_kp:Nat→Bool) :
 ∃e b,e ∈ E∧s.L.getD k (0,[])=(e.at_,e.bs)∧A=some ⟨b,0,none⟩∧w.cell? ⟨b,k*2,none⟩=some (.int .i64 (e.at_:Int))∧w.cell? ⟨b,k*2+1,none⟩=some (.slice (some ⟨e.b,0,none⟩) 64 e.c):=by
 have hE:=h.len
 obtain⟨b,hA,_,_⟩:=Zz h.own (by omega)
 have hw:=wc_at (E:=E) (k:=k) (by omega)
 subst hA
 refine⟨E[k],b,Me_ _,?_,rfl,?_,?_⟩
 ·rw [h.list];simp [hE,hk]
 ·rw [h.own.cellAt _ (by omega),Nat.mul_comm,hw.1]
 ·rw [h.own.cellAt _ (by omega),Nat.mul_comm,hw.2]
theorem Inv.take {w wr w3:World} {F:Nat→Prop} {g gl n c:Nat} {s:St} {A:Option Addr} {E:List Wr} {kp:Nat→Bool} {k:Nat} {e:Wr} (h:Inv w F g s gl A n c E kp k wr) (hk:kp k=true) (he:s.L.getD k (0,[])=(e.at_,e.bs)) (hkl:k<s.L.length) {o:Obj}
 (hB:Blk w3 gl 157 (splice (u8n (laidTo kp s.S s.L k).flatten) (e.at_*64) (u8n e.bs))) (ho:Only gl (wr.alloc o).drew w3):Inv w F g s gl A n c E kp (k+1) w3:=by
 have hK:Keep (fun j=>j=gl) wr w3:=((Keep.of_below ((Mb _ _).alloc (Mr _) o)).drew).trans (Keep.only (F:=fun j=>j=gl) ho rfl) fun _ h=>.inl h
 have hm:s.L.getD k (0,[]) ∈ s.L:=by
  have:s.L.getD k (0,[])=s.L[k]:=by simp [hkl]
  rw [this]
  exact Me_ _
 have hw:=h.1.ok.wait _ hm
 rw [he] at hw
 have hS:=h.1.ok.sec
 have hl1:e.bs.length=64:=hw.2
 have hl2:e.at_<(laidTo kp s.S s.L k).length:=hw.1
 refine⟨?_,h.2.trans hK fun _ h=>.inl h⟩
 rw [laidTo,if_pos hk,he]
 rw [Yy,qxf hS hl1 hl2] at hB
 refine At.laid_ (s:={ s with S:=laidTo kp s.S s.L k }) h.1 hB hK (by simp) fun x hx=>?_
 rcases List.mem_or_eq_of_mem_set hx with hx|hx
 ·exact hS x hx
 ·subst hx;exact hl1
theorem Inv.done {w wr w1:World} {F:Nat→Prop} {g gl n c:Nat} {s:St} {A:Option Addr} {E:List Wr} {kp:Nat→Bool} (h:Inv w F g s gl A n c E kp n wr) (hn:s.L.length=n) {ys:List Value} (ho:w1.ownsRow 0 119 2 (.slice A n c) n ys) (hg:wr.grownBy w1 (Value.slice A n c).ownBlock) :
 Got F g w (.tuple #[]) (lay kp s) (.returned (.tuple #[])) (w1.setCell ⟨g,1,none⟩ (.slice A 0 c)):=by
 have hk:Keep (fun j=>(Value.slice A n c).ownBlock=some j) wr w1:=Keep.grown hg fun _ h=>h
 have h2:=At.emptied h.1 hk ho rfl
 refine⟨rfl,F,⟨gl,A,0,c,[],?_⟩,?_,fun k hk=>.inl hk⟩
 ·rw [lay,hn]
  exact h2
 ·exact ((h.2.mono fun j _ hj=>hj▸h.1.fl).trans (hk.mono (G:=F) fun j _ hj=>(h.1.fw j hj).1) fun _ h=>.inl h).trans (Keep.set (F:=F) _ _ _ h.1.fg) fun _ h=>.inl h
theorem fit {S0:List (List Nat)} {L:List (Nat×List Nat)} {kp:Nat→Bool} {k i:Nat} (h:∀x ∈ laidTo kp S0 L k,x.length=64) (hi:i<S0.length):i*64+64≤(u8n (laidTo kp S0 L k).flatten).length:=by
 rw [Qv,qxe h,Zj]
 omega
theorem qxg {w wr w4:World} {F:Nat→Prop} {g gl n c k:Nat} {s:St} {A:Option Addr} {E:List Wr} {kp:Nat→Bool} (h:Inv w F g s gl A n c E kp k wr) (hg:wr.grownBy w4 (Value.slice A n c).ownBlock):w4.cell? ⟨g,1,none⟩=some (.slice A n c)∧w4.frozen? ⟨g,1,none⟩=false:=by
 have hk:Keep (fun j=>(Value.slice A n c).ownBlock=some j) wr w4:=Keep.grown hg fun _ h=>h
 have hB:=hk.blk h.1.head fun hk=>(h.1.fw g hk).2.1 rfl
 exact⟨hB.cell rfl,hB.frozen 1⟩
def kb (K k:Nat):Bool:=decide (K/2 ^ k%2=1)
theorem lay_all (F:Nat→Prop) (g:Nat) (s:St) (w:World) (hD:Dk w F g s) (hL:s.L.length≤1000000000) :
 Calls Tryz.prog 163 #[.pointer (some ⟨g,0,none⟩),.func (.func 164) #[] #[]] w (Got F g w (.tuple #[]) (lay (fun _=>true) s)):=by
 obtain⟨gl,A,n,c,E,h⟩:=hD
 obtain⟨_,c1,_,_⟩:=h.cells
 have hlen:=Hz h.long
 have hn:n≤1000000000:=by rw [←h.long];exact hL
 have hg:=h.lt g h.fg
 have H:=Hz h
 clear h hL
 go_enter Tryz.func163,Tryz.ntmps163
 go_wp2
 go_loopw [11] (fun i wr=>∃k:Nat,k≤n∧i=.int .i64 k∧Hid (Inv w F g s gl A n c E (fun _=>true) k wr)) (fun i _=>n-(intOf i).toNat)
 case atStart=>exact⟨0,Nat.zero_le _,rfl,H.o,Keep.refl _ _⟩
 case round=>
  obtain⟨k,hk,rfl,HI⟩:=hrel
  obtain⟨d0,d1,_,_⟩:=HI.o.1.cells
  have hgr:=HI.o.1.lt g HI.o.1.fg
  by_cases hlt:k<n
  ·obtain⟨e,b,he,heq,hA,g0,g1⟩:=ent_at HI.o.1 hlt (fun _=>true)
   subst hA
   have HE:=Hz heq
   have HM:=Hz he
   clear heq he
   have hat:e.at_<s.S.length:=by
    have:=HI.o.1.ok.wait (e.at_,e.bs) (by rw [←HE.o,show s.L.getD k (0,[])=s.L[k]'(by rw [hlen.o];exact hlt) from by simp [hlen.o,hlt]];exact Me_ _)
    have h2:=this.1
    simpa [Zj] using h2
   have hmo:=H.o.ok.most
   simp only [Zj] at d0
   obtain⟨N,hN⟩:∃N,N=s.S.length:=⟨_,rfl⟩
   rw [←hN] at hat hmo d0
   have HN:=Hz hN
   clear hN
   go_wp2_with (go_at_call 164;refine (all_any _ _).mono ?_;rintro e w3 ⟨rfl,rfl⟩)
   have m0:=((Mb wr.heap.size wr).alloc (Mr _) (.cells #[.int .i64 (e.at_:Int),.slice (some ⟨e.b,0,none⟩) 64 e.c] 119)).cell (p:=⟨g,0,none⟩) hgr |>.trans d0
   have mR:=Hz (Rd.alloc (HI.o.1.ent e HM.o).1 (.cells #[.int .i64 (e.at_:Int),.slice (some ⟨e.b,0,none⟩) 64 e.c] 119))
   have mB:=Hz (Blk.alloc HI.o.1.laid (.cells #[.int .i64 (e.at_:Int),.slice (some ⟨e.b,0,none⟩) 64 e.c] 119))
   have p0:(0:Int)≤(e.at_:Int):=by omega
   have p1:(e.at_:Int)<(N:Int):=by omega
   have hbx:=Blk.new wr 119 [.int .i64 (e.at_:Int),.slice (some ⟨e.b,0,none⟩) 64 e.c]
   obtain⟨wa,hwa⟩:∃wa,wa=wr.alloc (.cells #[.int .i64 (e.at_:Int),.slice (some ⟨e.b,0,none⟩) 64 e.c] 119):=⟨_,rfl⟩
   rw [←hwa] at m0 mR mB hbx ⊢
   have HWA:=Hz hwa
   clear hwa
   have b0:wa.cell? ⟨wr.heap.size,0,none⟩=some (.int .i64 (e.at_:Int)):=hbx.cell rfl
   have b1:wa.cell? ⟨wr.heap.size,1,none⟩=some (.slice (some ⟨e.b,0,none⟩) 64 e.c):=hbx.cell rfl
   clear hbx d0 d1
   go_still_tail 10,(by kernel_rfl)
   change wpList _ _ _ _ _ (World.drew _)
   refine Ql rfl (.tmp 26) (.tmp 28) 31 31 rfl 5 Tryz.underlying31 size8 gl (e.at_*64) 64 64 rfl rfl (show Rd (World.drew _) _ _ _ _ from mR.o) (u8n_one _) (show Blk (World.drew _) _ _ _ from mB.o) (fit HI.o.1.ok.sec (by rw [←HN.o];exact hat)) ?_
   intro w5 m hm hB5 ho5
   clear m0 p0 p1 b0 b1
   go_wp2
   go_roundw
   case rel=>
    have hm':m=64:=hm.o
    subst hm'
    have hB6:=hB5.o
    rw [Mt (by rw [Qv,Rd.nats mR.o];omega)] at hB6
    exact⟨k+1,by omega,by go_num,Inv.take HI.o rfl HE.o (by rw [hlen.o];exact hlt) hB6 (by rw [←HWA.o];exact ho5.o)⟩
   case measure=>simp [intOf];omega
  ·obtain rfl:k=n:=by omega
   have fz:=fun w4 ys (h4:w4.ownsRow 0 119 2 (.slice A k c) k ys) (hg:wr.grownBy w4 (Value.slice A k c).ownBlock)=>qxg HI.o hg
   have Fz:=Hz fz
   clear fz
   go_wp2_with (refine Y6 rfl (.tmp 34) 86 119 rfl _ Tryz.underlying86 zero_wr rfl Zv rfl rfl HI.o.1.own ?_;intro w4 ys ho4 hg4 hs4;have HG4:=Hz hg4;obtain⟨k4,f4⟩:=Fz.o w4 ys ho4.o hg4;clear hg4)
   go_end0
   exact HI.o.done hlen.o ho4.o HG4.o
theorem Got.trans {w w1 w2:World} {F F1:Nat→Prop} {g:Nat} {v:Value} {s:St} {e:Ending} (hk:Keep F w w1) (hf:∀k,F1 k→F k∨w.heap.size≤k) (h:Got F1 g w1 v s e w2):Got F g w v s e w2:=by
 obtain⟨he,F2,hD,hk2,hf2⟩:=h
 refine⟨he,F2,hD,hk.trans hk2 hf,fun k h=>?_⟩
 rcases hf2 k h with h|h
 ·exact hf k h
 ·exact .inr (Ml hk.size h)
theorem spend_sl (s:St):(spend s).2.L=s.L∧(spend s).2.S=s.S:=by
 unfold spend
 split
 ·exact⟨rfl,rfl⟩
 ·split
  ·exact⟨rfl,rfl⟩
  ·dsimp only
   split <;> exact⟨rfl,rfl⟩
theorem flush_down (F:Nat→Prop) (g:Nat) (s:St) (w:World) (hD:Dk w F g s) (hs:(spend s).1=false):Calls Tryz.prog 130 #[.pointer (some ⟨g,0,none⟩)] w (Got F g w (.int .i64 8) (spend s).2):=by
 have HS:=fun W h=>U2 F g s W h
 rw [hs] at HS
 have HS':=Hz HS
 have Hs:=Hz hs
 clear HS hs
 go_enter Tryz.func130,Tryz.ntmps130
 go_wp2_with (go_at_call 44;refine (HS'.o _ hD).mono ?_;rintro e w' ⟨rfl,F1,hD1,hk1,hf1⟩)
 go_ret
 exact⟨rfl,F1,hD1,hk1,hf1⟩
theorem flush_ok (F:Nat→Prop) (g:Nat) (s:St) (w:World) (hD:Dk w F g s) (hs:(spend s).1=true) (hL:s.L.length≤1000000000) :
 Calls Tryz.prog 130 #[.pointer (some ⟨g,0,none⟩)] w (Got F g w (.int .i64 0) (lay (fun _=>true) (spend s).2)):=by
 have HS:=fun W h=>U2 F g s W h
 rw [hs] at HS
 have HS':=Hz HS
 have hL1:(spend s).2.L.length≤1000000000:=by rw [(spend_sl s).1];exact hL
 obtain⟨s1,hs1⟩:∃s1,s1=(spend s).2:=⟨_,rfl⟩
 rw [←hs1] at hL1 HS' ⊢
 have HL:=Hz hL1
 clear HS hs hs1 hL1 hL
 go_enter Tryz.func130,Tryz.ntmps130
 go_wp2_with (first
  | (go_at_call 44;refine (HS'.o _ hD).mono ?_;rintro e w1 ⟨rfl,F1,hD1,hk1,hf1⟩)
  | (go_at_call 163;refine (lay_all F1 g s1 _ hD1 HL.o).mono ?_;rintro e w2 ⟨rfl,F2,hD2,hk2,hf2⟩))
 go_ret
 exact Got.trans hk1 hf1 ⟨rfl,F2,hD2,hk2,hf2⟩
def power (K:Nat) (s:St):St:={ lay (kb K) s with fuse:=-1,down:=false }
end DskE
namespace DskF
open Kit Byt Mem DskA DskB
theorem Yw {s:St} (h1:s.fuse<0) (h2:s.down=false):spend s=(true,s):=by
 rw [spend,if_neg (by omega),h2,if_neg (by simp),if_neg (by omega)]
def wrote (s:St) (i:Nat) (bs:List Nat):St:={ s with L:=s.L++[(i,bs)] }
theorem blk_rd {w:World} {g:Nat} {t:TypeId} {xs:List Nat} (h:Blk w g t (u8n xs)) {n:Nat} (hn:xs.length=n) (hm:n≤9223372036854775807):Rd w (some ⟨g,0,none⟩) n n (u8n xs):=
 ⟨by rw [Qv,hn],Mr _,hm,fun _=>⟨g,0,rfl,h.lt,fun j u hu=>by rw [Nat.zero_add];exact h.cell hu⟩⟩
theorem mk64 (w:World):(Instr.makeSlice 31 (.int .i64 64) (.int .i64 64)).run Tryz.prog w=.ok (.slice (some ⟨w.heap.size,0,none⟩) 64 64) (w.alloc (.cells (u8n (zs 64)).toArray 5)):=by
 obtain⟨i0,hi0,hz0,hz1,hz2⟩:=info_parts info8
 have h:=run_make (P:=Tryz.prog) w 31 5 i0 _ Tryz.underlying31 hi0 hz0 .i64 .i64 64 64 (by omega) (by omega) (by rw [hz2];omega) (by omega)
 have hm:madeCells (Value.int .u8 0).cells ((64:Int).toNat*i0.size)=(u8n (zs 64)).toArray:=by
  rw [hz1]
  apply Array.ext'
  exact toList_madeCells_one (.int .u8 0) 64 |>.trans (by simp [u8n,zs])
 rw [hm] at h
 exact h
end DskF
namespace StgM
open DskA DskB DskD DskE DskF
def put1 (s:St) (i:Nat) (bs:List Nat):St×Int:=
 if (spend s).1=false then ((spend s).2,8)
 else if (spend (wrote (spend s).2 i bs)).1=false then ((spend (wrote (spend s).2 i bs)).2,8)
 else (lay (fun _=>true) (spend (wrote (spend s).2 i bs)).2,0)
structure Up0 (s:St):Prop where
 up:s.down=false
 none_:s.L=[]
 ok:s.ok
theorem spend_S (s:St):(spend s).2.S=s.S∧(spend s).2.L=s.L:=by
 unfold spend
 split
 ·exact⟨rfl,rfl⟩
 ·split
  ·exact⟨rfl,rfl⟩
  ·dsimp only
   split <;> exact⟨rfl,rfl⟩
theorem qqb {s:St} (h:(spend s).1=false):(spend s).2.down=true:=by
 unfold spend at h ⊢
 split at h
 ·rename_i h0;rw [if_pos h0]
 ·rename_i h0
  rw [if_neg h0]
  split at h
  ·rename_i h1;rw [if_pos h1];exact h1
  ·cases h
theorem qjy {s:St} (h:(spend s).1=true):(spend s).2.down=false:=by
 unfold spend at h ⊢
 split at h
 ·cases h
 ·rename_i h0
  rw [if_neg h0]
  split at h
  ·cases h
  ·rename_i h1
   rw [if_neg h1]
   dsimp only
   have:s.down=false:=by simpa using h1
   split <;> exact this
theorem qqc {s:St} (h:s.ok):(spend s).2.ok:=by
 have h1:=h.lo
 have h2:=h.hi
 unfold spend
 split
 ·exact⟨h.pos,h.most,h.sec,h.wait,h1,h2⟩
 ·split
  ·exact h
  ·dsimp only
   split
   ·rename_i h3
    exact⟨h.pos,h.most,h.sec,h.wait,by show -9223372036854775808≤s.fuse-1;omega,by show s.fuse-1≤9223372036854775807;omega⟩
   ·exact h
theorem Xk {s:St} (h:s.down=true):spend s=(false,s):=by
 have e : { s with down:=true }=s:=by rw [←h]
 unfold spend
 rw [e,if_pos h]
 split <;> rfl
theorem Tx {s:St} (h:s.down=true) (i:Nat) (bs:List Nat):put1 s i bs=(s,8):=by
 unfold put1
 rw [Xk h]
 rfl
theorem qjz (K:Nat) (s:St):(power K s).S=laidTo (kb K) s.S s.L s.L.length:=rfl
theorem qxh {s:St} (h:s.ok) {i:Nat} {bs:List Nat} (hi:i<s.S.length) (hb:bs.length=64):(wrote s i bs).ok:=
 ⟨h.pos,h.most,h.sec,fun p hp=>by
  rcases List.mem_append.1 (show p ∈ s.L++[(i,bs)] from hp) with h1|h1
  ·exact h.wait p h1
  ·rw [List.mem_singleton.1 h1];exact⟨hi,hb⟩,h.lo,h.hi⟩
theorem lay_ok {s:St} (h:s.ok) (kp:Nat→Bool):(lay kp s).ok:=
 ⟨by show 1≤(laidTo kp s.S s.L s.L.length).length;rw [Zj];exact h.pos,by show (laidTo kp s.S s.L s.L.length).length≤128;rw [Zj];exact h.most,
  qq1 h.sec (fun p hp=>(h.wait p hp).2) _ (Mr _),(fun p hp=>by cases hp),h.lo,h.hi⟩
theorem Jz {s:St} (h:Up0 s) {i:Nat} {bs:List Nat} (hi:i<s.S.length) (hb:bs.length=64) :
 ((put1 s i bs).2=0∧Up0 (put1 s i bs).1∧(put1 s i bs).1.S=s.S.set i bs)∨
 ((put1 s i bs).2=8∧(put1 s i bs).1.down=true∧(put1 s i bs).1.ok∧(put1 s i bs).1.L.length≤1∧(∀K,(power K (put1 s i bs).1).S=s.S∨(power K (put1 s i bs).1).S=s.S.set i bs)):=by
 unfold put1
 have hok:=qqc h.ok
 have hS:=spend_S s
 by_cases h1:(spend s).1=false
 ·rw [if_pos h1]
  refine .inr ⟨rfl,qqb h1,hok,by rw [hS.2,h.none_];exact Nat.zero_le 1,fun K=>.inl ?_⟩
  rw [qjz,hS.1,hS.2,h.none_]
  rfl
 ·rw [if_neg h1]
  have hw:=qxh hok (i:=i) (bs:=bs) (by rw [hS.1];exact hi) hb
  have hwk:=qqc hw
  have hS2:=spend_S (wrote (spend s).2 i bs)
  have hL:(spend (wrote (spend s).2 i bs)).2.L=[(i,bs)]:=by rw [hS2.2];show (spend s).2.L++[(i,bs)]=_;rw [hS.2,h.none_];rfl
  have hSS:(spend (wrote (spend s).2 i bs)).2.S=s.S:=by rw [hS2.1];exact hS.1
  by_cases h2:(spend (wrote (spend s).2 i bs)).1=false
  ·rw [if_pos h2]
   refine .inr ⟨rfl,qqb h2,hwk,by rw [hL];exact Mr 1,fun K=>?_⟩
   rw [qjz,hL,hSS]
   show (if kb K 0 then _ else _)=_∨(if kb K 0 then _ else _)=_
   cases kb K 0
   ·exact .inl rfl
   ·exact .inr rfl
  ·rw [if_neg h2]
   refine .inl ⟨rfl,⟨qjy (by simpa using h2),rfl,lay_ok hwk _⟩,?_⟩
   show laidTo (fun _=>true) (spend (wrote (spend s).2 i bs)).2.S (spend (wrote (spend s).2 i bs)).2.L (spend (wrote (spend s).2 i bs)).2.L.length=_
   rw [hL,hSS]
   rfl
theorem U3 (s:St) (i:Nat) (bs:List Nat):(put1 s i bs).1.S.length=s.S.length:=by
 unfold put1
 split
 ·rw [(spend_S s).1]
 ·split
  ·rw [(spend_S _).1]
   show (spend s).2.S.length=_
   rw [(spend_S s).1]
  ·show (laidTo _ _ _ _).length=_
   rw [Zj,(spend_S _).1]
   show (spend s).2.S.length=_
   rw [(spend_S s).1]
theorem now_S {s:St} (h:s.L=[]) (i:Nat):now s i=s.S.getD i []:=by unfold now;rw [h];rfl
end StgM
namespace StgP
open DskA DskB DskD DskE DskF StgM
theorem Qh {S:List (List Nat)} {i j:Nat} (bs:List Nat) (hi:i<S.length):(S.set i bs).getD j []=if i=j then bs else S.getD j []:=by
 rw [Mg,List.getElem?_set]
 by_cases e:i=j
 ·subst e;rw [if_pos rfl,if_pos rfl,if_pos hi];rfl
 ·rw [if_neg e,if_neg e,←Mg]
theorem Tk (K:Nat) (s:St):(power K s).S.length=s.S.length:=Zj _ _ _ _
theorem Tg {s s':St} {i m:Nat} {bs:List Nat} (h:m≤s.S.length) (hp:∀K,(power K s').S=s.S∨(power K s').S=s.S.set i bs):m≤s'.S.length:=by
 have hl:=Tk 0 s'
 rcases hp 0 with e|e
 ·rw [e] at hl;omega
 ·rw [e,List.length_set] at hl;omega
end StgP
namespace StgQ
open DskA DskB DskD DskE DskF StgM StgP
end StgQ
namespace StgJ
open DskA DskB DskD DskE DskF StgM StgP
def Free (s:St):Prop:=s.fuse<0∧s.down=false
theorem put1_free {s:St} (h:Free s) (i:Nat) (bs:List Nat):(put1 s i bs).2=0∧Free (put1 s i bs).1:=by
 have e1:=Yw h.1 h.2
 have e2:spend (wrote s i bs)=(true,wrote s i bs):=Yw h.1 h.2
 unfold put1
 rw [e1]
 dsimp only
 rw [if_neg (by simp),e2]
 dsimp only
 rw [if_neg (by simp)]
 exact⟨rfl,h⟩
theorem K4 (n:Int) (i:Nat) (h:i<cnt n):(newSt n).S.getD i []=zs 64:=by
 show (List.replicate (cnt n) (zs 64)).getD i []=_
 rw [Mg,List.getElem?_replicate,if_pos h]
 rfl
theorem new_ok (n:Int):(newSt n).ok:=by
 have h1:=DskB.N1 n
 have h2:=DskB.qjw n
 refine⟨by show 1≤(List.replicate (cnt n) (zs 64)).length;rw [List.length_replicate];exact h1,by show (List.replicate (cnt n) (zs 64)).length≤128;rw [List.length_replicate];exact h2,fun x hx=>?_,fun p hp=>(by cases hp),by show -9223372036854775808≤(-1:Int);omega,by show (-1:Int)≤9223372036854775807;omega⟩
 rw [List.eq_of_mem_replicate hx]
 exact DskB.zs_len 64
theorem N6 (n:Int):(newSt n).S.length=cnt n:=List.length_replicate
end StgJ
namespace NumA
open Kit
def wd (w:Int):Nat:=(min (max w 1) 6).toNat
theorem wd_pos (w:Int):1≤wd w:=by unfold wd;omega
theorem wd_le (w:Int):wd w≤6:=by unfold wd;omega
theorem width_any (x:Int) (w:World):Calls Tryz.prog 135 #[.int .i64 x] w fun e w'=>e=.returned (.int .i64 (wd x:Nat))∧w=w':=by
 go_enter Tryz.func135,Tryz.ntmps135
 go_wp2
 all_goals (go_ret;exact⟨Qg (by unfold wd;omega),rfl⟩)
theorem Width_any (x:Int) (w:World):Calls Tryz.prog 186 #[.int .i64 x] w fun e w'=>e=.returned (.int .i64 (wd x:Nat))∧w=w':=by
 go_enter Tryz.func186,Tryz.ntmps186
 go_wp2
 all_goals (go_ret;exact⟨Qg (by unfold wd;omega),rfl⟩)
abbrev u8s (xs:List Int):List Value:=xs.map (Value.int .u8)
theorem u8s_one (xs:List Int):∀u ∈ u8s xs,u.oneCell'=true:=ints_oneCell _ _
theorem qj0 (xs:List Int):(u8s xs).length=xs.length:=List.length_map ..
theorem Rd.bytes {w:World} {A:Option Addr} {n c:Nat} {xs:List Int} (h:Rd w A n c (u8s xs)):xs.length=n:=by have:=h.len;rwa [qj0] at this
theorem Rd.byte {w:World} {A:Option Addr} {n c:Nat} {xs:List Int} (h:Rd w A n c (u8s xs)) {k:Nat} (hk:k<xs.length):∃b o,A=some ⟨b,o,none⟩∧w.cell? ⟨b,o+k,none⟩=some (.int .u8 xs[k]):=by
 obtain⟨b,o,hA,hc⟩:=Rd.at_ h (k:=k) (by have:=Rd.bytes h;omega)
 exact⟨b,o,hA,by simpa using hc⟩
theorem info8:(Tryz.prog.info? 5).map (fun i=>(i.zero,i.size,i.bytes))=some (some (.int .u8 0),1,1):=by kernel_rfl
theorem size8:(Tryz.prog.info? 5).map (·.size)=some 1:=by kernel_rfl
def Blk8 (w:World) (g:Nat) (cs:List Int):Prop:=w.heap[g]?=some (.cells (u8s cs).toArray 5 (0,0))
section
variable {w w':World} {g:Nat} {cs:List Int}
theorem Blk8.cell (h:Blk8 w g cs) {i:Nat} (hi:i<cs.length):w.cell? ⟨g,i,none⟩=some (.int .u8 cs[i]):=by
 rw [cell_of_row w g i _ _ _ h]
 simp [u8s,hi]
theorem Blk8.frozen (h:Blk8 w g cs) (i:Nat):w.frozen? ⟨g,i,none⟩=false:=frozen_of_row w g i _ _ h
theorem Blk8.set (h:Blk8 w g cs) (i:Nat) (b:Int):Blk8 (w.setCell ⟨g,i,none⟩ (.int .u8 b)) g (cs.set i b):=by
 unfold Blk8
 rw [heap_setCell_same w g i _ _ _ h]
 simp [u8s,List.map_set]
theorem Blk8.own (h:Blk8 w g cs) {base:Nat} (hb:base≤g) (hm:cs.length≤9223372036854775807) {k:Nat} (hk:cs.length=k):w.ownsRow base 5 1 (.slice (some ⟨g,0,none⟩) k k) k (u8s cs):=by
 subst hk
 have h':=Q0 (base:=base) (n:=cs.length) (w:=w) (g:=g) (cur:=u8s cs) h hb (by simp) (by simpa using hm)
 rw [qj0,Mt (by simp)] at h'
 exact h'
end
def Fresh (w:World) (xs:List Int) (e:Ending) (w':World):Prop:=
 ∃A n c,Hid (n=xs.length)∧e=.returned (.slice A n c)∧w'.ownsRow w.heap.size 5 1 (.slice A n c) n (u8s xs)∧Bw w w'
theorem Fresh.of {w w':World} {xs:List Int} {A:Option Addr} {n c:Nat} (h:w'.ownsRow w.heap.size 5 1 (.slice A n c) n (u8s xs)) (hb:Bw w w'):Fresh w xs (.returned (.slice A n c)) w':=by
 have hn:=h.1
 exact⟨A,n,c,(show _=_ by simpa using hn.symm),rfl,h,hb⟩
end NumA
namespace NumB
open Kit NumA
def cl (k:Nat) (n:Int):Nat:=min n.toNat (2 ^ (8*k)-1)
def be (k m:Nat):List Int:=(List.range k).map fun i=>((m/2 ^ (8*(k-1-i))%256:Nat):Int)
theorem Wy (k m:Nat):(be k m).length=k:=by simp [be]
theorem pow_le {k:Nat} (h:k≤6):2 ^ (8*k)≤281474976710656:=by
 have:2 ^ (8*k)≤2 ^ 48:=Nat.pow_le_pow_right (by omega) (by omega)
 simpa using this
theorem V9 (k:Nat):1≤2 ^ (8*k):=Nat.one_le_two_pow
def putb (n x:Int):List Int:=be (wd x) (cl (wd x) n)
theorem Jw (n x:Int):(putb n x).length=wd x:=Wy _ _
theorem be_take {k m j:Nat} (h:j<k):(be k m).take (j+1)=(be k m).take j++[(m:Int)/2 ^ (8*(k-1-j))%256]:=by
 have hl:j<(be k m).length:=by rw [Wy];exact h
 rw [List.take_succ_eq_append_getElem hl]
 congr 2
 simp [be]
theorem u8s_app (xs ys:List Int) (b:Int):u8s (xs++(ys++[b]))=u8s (xs++ys)++[Value.int .u8 b]:=by simp [u8s]
theorem ipow (k:Nat):((2 ^ k:Nat):Int)=(2:Int) ^ k:=by rw [Int.natCast_pow];rfl
theorem cl_top {k:Nat} {n:Int} (h:(2:Int) ^ (8*k)-1<if n<0 then 0 else n):(2:Int) ^ (8*k)-1=(cl k n:Nat):=by
 have p:=V9 k
 unfold cl
 rw [←ipow] at h ⊢
 split at h <;> omega
theorem cl_neg {k:Nat} {n:Int} (h:n<0):0=((cl k n:Nat):Int):=by unfold cl;omega
theorem cl_mid {k:Nat} {n:Int} (h:(if n<0 then 0 else n)≤(2:Int) ^ (8*k)-1) (h0:0≤n):n=(cl k n:Nat):=by
 have p:=V9 k
 unfold cl
 rw [←ipow] at h
 split at h <;> omega
theorem V2 {k:IntKind} {a b:Int} (h:a=b):Value.int k a=Value.int k b:=by rw [h]
theorem put_any (A:Option Addr) (m c:Nat) (xs:List Int) (n x:Int) (w:World) (hx:Rd w A m c (u8s xs)) (hl:m≤140737488351232) :
 Calls Tryz.prog 92 #[.slice A m c,.int .i64 n,.int .i64 x] w fun e w'=>Fresh w (xs++putb n x) e w':=by
 obtain rfl:=Rd.bytes hx
 obtain⟨i0,hi0,hz0,hz1,hz2⟩:=info_parts info8
 have w1:=wd_pos x
 have w2:=wd_le x
 have p1:(2:Int) ^ (8*wd x)≤281474976710656:=by have:=pow_le w2;rw [←ipow];omega
 have p2:1≤(2:Int) ^ (8*wd x):=by have:=V9 (wd x);rw [←ipow];omega
 go_enter Tryz.func92,Tryz.ntmps92
 go_upto_region 2 with (go_at_call 135;refine (width_any _ _).mono ?_;rintro e w' ⟨rfl,rfl⟩)
 go_cut [1] (fun v wx=>v=.int .i64 (cl (wd x) n:Nat)∧w=wx)
 case first=>
  go_wp2
  all_goals (go_meet;case rel=>exact⟨V2 (by first|exact cl_top ‹_› | exact cl_neg ‹_› | exact cl_mid ‹_› ‹_›),rfl⟩)
 case rest=>
  obtain⟨rfl,rfl⟩:=hcut
  go_wp2_with (first
   | (at_make;refine Qx _ rfl _ _ _ rfl 5 i0 _ 1 Tryz.underlying31 hi0 hz0 hz1 hz2 rfl _ _ _ _ xs.length (xs.length+wd x) rfl rfl (by omega) (by omega) (by omega) (by omega) (by omega) ?_;intro w1' H1 hb1 hs1)
   | (with_reducible refine wpList_copy_splice rfl (.tmp 25) (.tmp 26) _ _ rfl 5 Tryz.underlying31 size8 _ _ _ _ _ _ rfl rfl w.heap.size 0 (List.replicate (xs.length+wd x) (Value.int .u8 0)) 5 H1.o (u8s xs) (by simp) (fun h=>⟨rfl,Rd.src hx hb1 h⟩) (by simp) (u8s_one _) w.heap.size w hb1 (Mr _) ?_;intro w2' H2 hb2))
  have hown0:w2'.ownsRow w.heap.size 5 1 (.slice (some ⟨w.heap.size,0,none⟩) xs.length (xs.length+wd x)) xs.length (u8s xs):=by
   have h:=Q0 (base:=w.heap.size) (n:=xs.length) H2.o (Mr _) (by rw [length_splice _ _ _ (by simp)];simp) (by rw [length_splice _ _ _ (by simp)];simp;omega)
   rw [length_splice _ _ _ (by simp),List.length_replicate] at h
   have e:(splice (List.replicate (xs.length+wd x) (Value.int .u8 0)) 0 (u8s xs)).take xs.length=u8s xs:=by
    simp [splice]
   rw [e] at h
   exact h
  go_loopw [7,29] (fun v i wr=>∃k:Nat,k≤wd x∧i=.int .i64 k∧v=.slice (some ⟨w.heap.size,0,none⟩) (xs.length+k) (xs.length+wd x)∧
   wr.ownsRow w.heap.size 5 1 (.slice (some ⟨w.heap.size,0,none⟩) (xs.length+k) (xs.length+wd x)) (xs.length+k) (u8s (xs++(be (wd x) (cl (wd x) n)).take k))∧Bw w wr)
   (fun _ i _=>wd x-(intOf i).toNat)
  case atStart=>exact⟨0,by omega,rfl,rfl,by simpa using hown0,hb2⟩
  case round=>
   obtain⟨k,hk,rfl,rfl,hown,hb⟩:=hrel
   by_cases hlt:k<wd x
   ·go_wp2_with (at_builtin;refine wpList_append_fits _ rfl (.tmp 32) (.tmp 41) _ rfl w.heap.size 5 i0 1 Tryz.underlying31 hi0 hz1 w.heap.size (xs.length+k) (xs.length+wd x) _ rfl (hown.alloc _) ⟨wr.heap.size,0,none⟩ 1 1 [.int .u8 ((cl (wd x) n:Nat)/2 ^ (8*(wd x-1-k))%256)] rfl rfl (new_one _ _ _) (by simp [Value.oneCell']) (by omega) ?_;intro w3 hown3 hg3)
    go_roundw
    case rel=>
     refine⟨k+1,by omega,by go_num,rfl,?_,?_⟩
     ·rw [be_take hlt,u8s_app]
      exact hown3
     ·exact below_add (hb.alloc hb.size _) (hown.alloc _) (Mr _) hg3
    case measure=>simp [intOf];omega
   ·go_wp2
    obtain rfl:k=wd x:=by omega
    go_ret
    rw [Mt (by rw [Wy];omega)] at hown
    exact Fresh.of hown hb
end NumB
namespace CrcM
def stp (x:Nat):Nat:=if x%2=1 then x/2^^^3988292384 else x/2
def it:Nat→Nat→Nat
 | 0,x=>x
 | k+1,x=>stp (it k x)
def s8 (x:Nat):Nat:=it 8 x
def fb (x c:Nat):Nat:=s8 (x^^^c)
def fd (x:Nat) (l:List Nat):Nat:=l.foldl fb x
def sm (l:List Nat):Nat:=4294967295-fd 4294967295 l
theorem qxi (a b:Nat):(a^^^b)/2=a/2^^^b/2:=by
 have:=Nat.shiftRight_xor_distrib (a:=a) (b:=b) (i:=1)
 simpa [Nat.shiftRight_succ] using this
theorem qxj (a b:Nat):(a^^^b)%2=(a%2+b%2)%2:=by
 have:=@Nat.xor_mod_two_eq_one a b
 rcases Nat.mod_two_eq_zero_or_one a with h1|h1 <;> rcases Nat.mod_two_eq_zero_or_one b with h2|h2 <;> rcases Nat.mod_two_eq_zero_or_one (a^^^b) with h3|h3 <;> simp_all
theorem stp_lt {x:Nat} (h:x<4294967296):stp x<4294967296:=by
 unfold stp
 split
 ·exact Nat.xor_lt_two_pow (n:=32) (by omega) (by decide)
 ·omega
theorem stp_xor (a b:Nat):stp (a^^^b)=stp a^^^stp b:=by
 unfold stp
 rw [qxi,qxj]
 rcases Nat.mod_two_eq_zero_or_one a with h1|h1 <;> rcases Nat.mod_two_eq_zero_or_one b with h2|h2 <;> simp only [h1,h2]
 ·simp
 ·simp only [if_true,Nat.reduceEqDiff,if_false,Nat.xor_assoc]
 ·simp only [if_true,Nat.reduceEqDiff,if_false]
  simp only [Nat.xor_assoc]
  rw [Nat.xor_comm (b/2)]
 ·simp only [Nat.reduceAdd,Nat.reduceMod,if_true,Nat.zero_ne_one,if_false]
  rw [Nat.xor_assoc,←Nat.xor_assoc 3988292384,Nat.xor_comm 3988292384,Nat.xor_assoc (b/2),Nat.xor_self,Nat.xor_zero]
theorem stp_eq_zero {x:Nat} (hx:x<4294967296) (h:stp x=0):x=0:=by
 unfold stp at h
 split at h
 ·have h2:x/2=3988292384:=by
   have:=congrArg (·^^^3988292384) h
   simpa [Nat.xor_assoc] using this
  omega
 ·omega
theorem it_lt (k:Nat) {x:Nat} (h:x<4294967296):it k x<4294967296:=by
 induction k with
 | zero=>exact h
 | succ k ih=>exact stp_lt ih
theorem it_xor (k a b:Nat):it k (a^^^b)=it k a^^^it k b:=by
 induction k with
 | zero=>rfl
 | succ k ih=>show stp _=_;rw [ih,stp_xor];rfl
theorem qq2 {k x:Nat} (hx:x<4294967296) (h:it k x=0):x=0:=by
 induction k with
 | zero=>exact h
 | succ k ih=>exact ih (stp_eq_zero (it_lt k hx) h)
theorem qxk (k x:Nat):it (k+1) x=it k (stp x):=by
 induction k with
 | zero=>rfl
 | succ k ih=>show stp (it (k+1) x)=_;rw [ih];rfl
theorem it_even (k m:Nat):it k (2 ^ k*m)=m:=by
 induction k generalizing m with
 | zero=>simp [it]
 | succ k ih=>
   rw [qxk]
   have e:stp (2 ^ (k+1)*m)=2 ^ k*m:=by
    unfold stp
    have h1:2 ^ (k+1)*m=2*(2 ^ k*m):=by rw [Nat.pow_succ,Nat.mul_comm (2 ^ k) 2,Nat.mul_assoc]
    rw [h1,if_neg (by omega)]
    omega
   rw [e,ih]
theorem s8_lt {x:Nat} (h:x<4294967296):s8 x<4294967296:=it_lt 8 h
theorem s8_xor (a b:Nat):s8 (a^^^b)=s8 a^^^s8 b:=it_xor 8 a b
theorem s8_inj {a b:Nat} (ha:a<4294967296) (hb:b<4294967296) (h:s8 a=s8 b):a=b:=by
 have h0:s8 (a^^^b)=0:=by rw [s8_xor,h,Nat.xor_self]
 have:=qq2 (k:=8) (Nat.xor_lt_two_pow (n:=32) ha hb) h0
 have h2:=congrArg (·^^^b) this
 simpa [Nat.xor_assoc] using h2
theorem s8_high (m:Nat):s8 (256*m)=m:=it_even 8 m
theorem split8 (y:Nat):y=(256*(y/256))^^^(y%256):=by
 apply Nat.eq_of_testBit_eq
 intro i
 rw [Nat.testBit_xor,show (256:Nat)=2 ^ 8 from rfl,Nat.testBit_mod_two_pow,Nat.testBit_two_pow_mul,Nat.testBit_div_two_pow]
 by_cases h:i<8
 ·have : ¬8≤i:=by omega
  simp [h,this]
 ·have:8≤i:=by omega
  simp [h,this]
theorem fb_table {x c:Nat} (hc:c<256):fb x c=s8 ((x%256)^^^c)^^^x/256:=by
 have e1:(x^^^c)/256=x/256:=by
  have:=Nat.shiftRight_xor_distrib (a:=x) (b:=c) (i:=8)
  rw [Nat.shiftRight_eq_div_pow,Nat.shiftRight_eq_div_pow,Nat.shiftRight_eq_div_pow] at this
  have h0:c/2 ^ 8=0:=by omega
  rw [h0] at this
  simpa using this
 have e2:(x^^^c)%256=(x%256)^^^c:=by
  have:=@Nat.xor_mod_two_pow x c 8
  rw [Nat.mod_eq_of_lt (a:=c) (by omega)] at this
  exact this
 unfold fb
 conv=>lhs;rw [split8 (x^^^c)]
 rw [s8_xor,s8_high,e1,e2,Nat.xor_comm]
theorem fb_lt {x c:Nat} (hx:x<4294967296) (hc:c<256):fb x c<4294967296:=s8_lt (Nat.xor_lt_two_pow (n:=32) hx (by omega))
theorem Y2 {a b c:Nat} (h:a^^^c=b^^^c):a=b:=by
 have h2:=congrArg (·^^^c) h
 simpa [Nat.xor_assoc] using h2
theorem K5 {a b c:Nat} (h:c^^^a=c^^^b):a=b:=by
 rw [Nat.xor_comm c,Nat.xor_comm c] at h
 exact Y2 h
theorem fb_inj {x y c:Nat} (hx:x<4294967296) (hy:y<4294967296) (hc:c<256) (h:fb x c=fb y c):x=y:=
 Y2 (s8_inj (Nat.xor_lt_two_pow (n:=32) hx (by omega)) (Nat.xor_lt_two_pow (n:=32) hy (by omega)) h)
theorem fb_inj' {x c d:Nat} (hx:x<4294967296) (hc:c<256) (hd:d<256) (h:fb x c=fb x d):c=d:=
 K5 (s8_inj (Nat.xor_lt_two_pow (n:=32) hx (by omega)) (Nat.xor_lt_two_pow (n:=32) hx (by omega)) h)
theorem Xg (x:Nat):fd x []=x:=by unfold fd;rw [List.foldl_nil]
theorem Yx (x c:Nat) (l:List Nat):fd x (c :: l)=fd (fb x c) l:=by unfold fd;rw [List.foldl_cons]
theorem qj1 (x:Nat) (l m:List Nat):fd x (l++m)=fd (fd x l) m:=List.foldl_append
theorem qj2 (x:Nat) (l:List Nat) (c:Nat):fd x (l++[c])=fb (fd x l) c:=by rw [qj1,Yx,Xg]
theorem fd_lt {x:Nat} (hx:x<4294967296) {l:List Nat} (hl:∀c ∈ l,c<256):fd x l<4294967296:=by
 induction l generalizing x with
 | nil=>rw [Xg];exact hx
 | cons c l ih=>rw [Yx];exact ih (fb_lt hx (hl c (by simp))) fun d hd=>hl d (by simp [hd])
theorem fd_inj {x y:Nat} (hx:x<4294967296) (hy:y<4294967296) {l:List Nat} (hl:∀c ∈ l,c<256) (h:fd x l=fd y l):x=y:=by
 induction l generalizing x y with
 | nil=>rw [Xg,Xg] at h;exact h
 | cons c l ih=>
   have hc:=hl c (by simp)
   rw [Yx,Yx] at h
   exact fb_inj hx hy hc (ih (fb_lt hx hc) (fb_lt hy hc) (fun d hd=>hl d (by simp [hd])) h)
theorem sm_lt (l:List Nat):sm l<4294967296:=by unfold sm;omega
theorem sm_eq {l m:List Nat} (hl:∀c ∈ l,c<256) (hm:∀c ∈ m,c<256) (h:sm l=sm m):fd 4294967295 l=fd 4294967295 m:=by
 have h1:=fd_lt (x:=4294967295) (by decide) hl
 have h2:=fd_lt (x:=4294967295) (by decide) hm
 unfold sm at h
 omega
theorem qj3 {l m:List Nat} {a b:Nat} (hl:∀c ∈ l,c<256) (hm:∀c ∈ m,c<256) (ha:a<256) (hb:b<256) (hab:a≠b):sm (l++a :: m)≠sm (l++b :: m):=by
 intro h
 have h:=sm_eq (by intro c hc;simp at hc;rcases hc with hc|hc|hc;exact hl c hc;omega;exact hm c hc) (by intro c hc;simp at hc;rcases hc with hc|hc|hc;exact hl c hc;omega;exact hm c hc) h
 rw [qj1,qj1,Yx,Yx] at h
 have hx:=fd_lt (x:=4294967295) (by decide) hl
 exact hab (fb_inj' hx ha hb (fd_inj (fb_lt hx ha) (fb_lt hx hb) hm h))
end CrcM
namespace RecM
open Byt
def nl (xs:List Nat):List Int:=xs.map fun n:Nat=>(n:Int)
theorem J3 (xs:List Nat):u8n xs=NumA.u8s (nl xs):=by simp [u8n,nl,NumA.u8s]
theorem Xt (xs ys:List Nat):nl (xs++ys)=nl xs++nl ys:=by simp [nl]
theorem Ww (xs:List Nat):(nl xs).length=xs.length:=by simp [nl]
def byt (xs:List Nat):Prop:=∀c ∈ xs,c<256
theorem byt_app {xs ys:List Nat} (h:byt xs) (g:byt ys):byt (xs++ys):=by
 intro c hc
 rcases List.mem_append.1 hc with h1|h1
 ·exact h c h1
 ·exact g c h1
theorem byt_take {xs:List Nat} (h:byt xs) (k:Nat):byt (xs.take k):=fun c hc=>h c (List.mem_of_mem_take hc)
theorem byt_drop {xs:List Nat} (h:byt xs) (k:Nat):byt (xs.drop k):=fun c hc=>h c (List.mem_of_mem_drop hc)
theorem nl_255 {xs:List Nat} (h:byt xs):∀u ∈ nl xs,0≤u∧u≤255:=by
 intro u hu
 simp only [nl,List.mem_map] at hu
 obtain⟨c,hc,rfl⟩:=hu
 have:=h c hc
 omega
def pbn (n x:Int):List Nat:=(List.range (NumA.wd x)).map fun i=>NumB.cl (NumA.wd x) n/2 ^ (8*(NumA.wd x-1-i))%256
theorem Ug (n x:Int):nl (pbn n x)=NumB.putb n x:=by simp [nl,pbn,NumB.putb,NumB.be,List.map_map,Function.comp_def]
theorem Zh (n x:Int):(pbn n x).length=NumA.wd x:=by simp [pbn]
theorem pbn_lt (n x:Int):byt (pbn n x):=by
 intro c hc
 simp only [pbn,List.mem_map,List.mem_range] at hc
 obtain⟨i,_,rfl⟩:=hc
 omega
theorem pbn1 (x:Nat) (h:x<256):pbn (x:Int) 1=[x]:=by
 have h1:NumA.wd 1=1:=rfl
 unfold pbn NumB.cl
 rw [h1]
 have h2:(2:Nat) ^ (8*1)-1=255:=rfl
 rw [h2]
 simp only [Int.toNat_natCast,List.range_succ,List.range_zero,List.nil_append,List.map_cons,List.map_nil]
 rw [Nat.min_eq_left (by omega)]
 simp
 omega
theorem pbn2 (x:Nat) (h:x<65536):pbn (x:Int) 2=[x/256,x%256]:=by
 have h1:NumA.wd 2=2:=rfl
 unfold pbn NumB.cl
 rw [h1]
 have h2:(2:Nat) ^ (8*2)-1=65535:=rfl
 rw [h2]
 simp only [Int.toNat_natCast,List.range_succ,List.range_zero,List.nil_append,List.map_cons,List.map_nil,List.singleton_append]
 rw [Nat.min_eq_left (by omega)]
 simp
 omega
theorem pbn4 (x:Nat) (h:x<4294967296):pbn (x:Int) 4=[x/16777216,x/65536%256,x/256%256,x%256]:=by
 have h1:NumA.wd 4=4:=rfl
 unfold pbn NumB.cl
 rw [h1]
 have h2:(2:Nat) ^ (8*4)-1=4294967295:=rfl
 rw [h2]
 simp only [Int.toNat_natCast,List.range_succ,List.range_zero,List.nil_append,List.map_cons,List.map_nil,List.cons_append]
 rw [Nat.min_eq_left (by omega)]
 simp
 omega
def s4 (xs:List Nat):List Nat:=pbn (CrcM.sm xs:Nat) 4
theorem Wx (xs:List Nat):(s4 xs).length=4:=by unfold s4;rw [Zh];rfl
def shut (xs:List Nat):List Nat:=xs++(s4 xs++List.replicate (60-xs.length) 0)
theorem J5 {xs:List Nat} (h:xs.length≤60):(shut xs).length=64:=by
 unfold shut
 rw [Ma,Ma,Wx,List.length_replicate]
 omega
theorem shut_lt {xs:List Nat} (h:byt xs):byt (shut xs):=byt_app h (byt_app (pbn_lt _ _) (fun c hc=>by have:=List.eq_of_mem_replicate hc;omega))
theorem qj4 (xs:List Nat):(shut xs).take xs.length=xs:=by unfold shut;rw [List.take_append_of_le_length (Mr _),List.take_length]
theorem qj5 (xs:List Nat):(shut xs).drop (xs.length+4)=List.replicate (60-xs.length) 0:=by
 unfold shut
 rw [←List.append_assoc,List.drop_append_of_le_length (by rw [Ma,Wx];omega),List.drop_of_length_le (by rw [Ma,Wx];omega),List.nil_append]
def wrong (m n:Nat) (xs:List Nat):Int:=if xs.length≠64 then 14 else if xs.take 2≠[76,m]∨xs.drop (n+4)≠List.replicate (60-n) 0 then 2 else if shut (xs.take n)≠xs then 10 else 0
def nm (xs:List Nat) (i k:Nat):Int:=(nl ((xs.drop i).take k)).foldl (fun a b=>256*a+b) 0
structure Rc where
 (p q a c l b:Int)
def bitOn (b i:Int):Prop:=(if i=0 then b%2 else b/2%2)=1
instance (b i:Int):Decidable (bitOn b i):=by unfold bitOn;infer_instance
def Rc.right (r:Rc):Prop:=((0≤r.p∧r.p≤3)∧(1≤r.q∧r.q≤4294967295)∧(0≤r.a∧r.a≤1)∧(0≤r.c∧r.c≤1))∧(0≤r.l∧r.l≤7)∧(0≤r.b∧r.b≤3)∧(r.a=r.c→r.l=0)∧¬bitOn r.b r.a∧¬bitOn r.b r.c
instance (r:Rc):Decidable r.right:=by unfold Rc.right;infer_instance
def Rc.none:Rc:=⟨0,0,0,0,0,0⟩
def Rc.bytes (r:Rc):List Nat:=[76,67]++pbn r.p 1++pbn r.q 4++pbn r.a 1++pbn r.c 1++pbn r.l 1++pbn r.b 1
def rcOf (xs:List Nat):Rc:=⟨nm xs 2 1,nm xs 3 4,nm xs 7 1,nm xs 8 1,nm xs 9 1,nm xs 10 1⟩
def getR (xs:List Nat):Rc×Int:=if wrong 67 11 xs≠0 then (Rc.none,wrong 67 11 xs) else if (rcOf xs).right then (rcOf xs,0) else (Rc.none,3)
structure Sg where
 (s z h:Int)
def blocks (z:Int):Nat:=((z+15)/16).toNat
def Sg.right (g:Sg):Prop:=(1≤g.s∧g.s≤65535)∧(1≤g.z∧g.z≤160)∧(0≤g.h∧g.h<2 ^ blocks g.z)
instance (g:Sg):Decidable g.right:=by unfold Sg.right;infer_instance
def Sg.none:Sg:=⟨0,0,0⟩
def Sg.bytes (g:Sg):List Nat:=[76,83]++pbn g.s 2++pbn g.z 2++pbn g.h 2
def sgOf (xs:List Nat):Sg:=⟨nm xs 2 2,nm xs 4 2,nm xs 6 2⟩
def getS (xs:List Nat):Sg×Int:=if wrong 83 8 xs≠0 then (Sg.none,wrong 83 8 xs) else if (sgOf xs).right then (sgOf xs,0) else (Sg.none,3)
theorem Rc.bytes_len (r:Rc):r.bytes.length=11:=by simp [Rc.bytes,Zh];rfl
theorem Sg.bytes_len (g:Sg):g.bytes.length=8:=by simp [Sg.bytes,Zh];rfl
theorem Rc.bytes_lt (r:Rc):byt r.bytes:=byt_app (byt_app (byt_app (byt_app (byt_app (byt_app (by unfold byt;simp) (pbn_lt _ _)) (pbn_lt _ _)) (pbn_lt _ _)) (pbn_lt _ _)) (pbn_lt _ _)) (pbn_lt _ _)
theorem Sg.bytes_lt (g:Sg):byt g.bytes:=byt_app (byt_app (byt_app (by unfold byt;simp) (pbn_lt _ _)) (pbn_lt _ _)) (pbn_lt _ _)
theorem Rc.bytes_eq {p q a c l b:Nat} (h:Rc.right ⟨p,q,a,c,l,b⟩):Rc.bytes ⟨p,q,a,c,l,b⟩=[76,67,p,q/16777216,q/65536%256,q/256%256,q%256,a,c,l,b]:=by
 obtain⟨⟨h1,h2,h3,h4⟩,h5,h6,_⟩:=h
 dsimp only at h1 h2 h3 h4 h5 h6
 unfold Rc.bytes
 rw [pbn1 p (by omega),pbn4 q (by omega),pbn1 a (by omega),pbn1 c (by omega),pbn1 l (by omega),pbn1 b (by omega)]
 rfl
theorem Zn {z:Int} (h:z≤160):(2:Int) ^ blocks z≤1024:=by
 have h1:blocks z≤10:=by unfold blocks;omega
 have h2:(2:Nat) ^ blocks z≤2 ^ 10:=Nat.pow_le_pow_right (by omega) h1
 have h3:((2 ^ blocks z:Nat):Int)=(2:Int) ^ blocks z:=by simp
 omega
theorem Sg.bytes_eq {s z h:Nat} (hr:Sg.right ⟨s,z,h⟩):Sg.bytes ⟨s,z,h⟩=[76,83,s/256,s%256,z/256,z%256,h/256,h%256]:=by
 obtain⟨h1,h2,h3⟩:=hr
 dsimp only at h1 h2 h3
 have:=Zn h2.2
 unfold Sg.bytes
 rw [pbn2 s (by omega),pbn2 z (by omega),pbn2 h (by omega)]
 rfl
theorem Rc.nats {r:Rc} (h:r.right):∃p q a c l b:Nat,r=⟨p,q,a,c,l,b⟩:=by
 obtain⟨p,q,a,c,l,b⟩:=r
 obtain⟨⟨h1,h2,h3,h4⟩,h5,h6,_⟩:=h
 dsimp only at h1 h2 h3 h4 h5 h6
 exact⟨p.toNat,q.toNat,a.toNat,c.toNat,l.toNat,b.toNat,by simp;omega⟩
theorem Sg.nats {g:Sg} (h:g.right):∃s z k:Nat,g=⟨s,z,k⟩:=by
 obtain⟨s,z,k⟩:=g
 obtain⟨h1,h2,h3,_⟩:=h
 dsimp only at h1 h2 h3
 exact⟨s.toNat,z.toNat,k.toNat,by simp;omega⟩
theorem Xn {m n:Nat} {xs:List Nat} (hl:xs.length=n) (h60:n≤60) (hm:xs.take 2=[76,m]) (h2:2≤n):wrong m n (shut xs)=0:=by
 have e1:(shut xs).take 2=[76,m]:=by unfold shut;rw [List.take_append_of_le_length (by omega),hm]
 have e2:(shut xs).drop (n+4)=List.replicate (60-n) 0:=by rw [←hl];exact qj5 xs
 have e3:shut ((shut xs).take n)=shut xs:=by rw [←hl,qj4]
 unfold wrong
 rw [if_neg (by rw [J5 (by omega)];simp),if_neg (by rw [e1,e2];simp),if_neg (by rw [e3];simp)]
theorem qj6 {r:Rc} (h:r.right):rcOf (shut r.bytes)=r:=by
 obtain⟨p,q,a,c,l,b,rfl⟩:=Rc.nats h
 have he:=Rc.bytes_eq h
 unfold shut rcOf nm
 rw [he]
 simp [nl]
 omega
theorem qj7 {g:Sg} (h:g.right):sgOf (shut g.bytes)=g:=by
 obtain⟨s,z,k,rfl⟩:=Sg.nats h
 have he:=Sg.bytes_eq h
 unfold shut sgOf nm
 rw [he]
 simp [nl]
 omega
theorem qj8 {r:Rc} (h:r.right):getR (shut r.bytes)=(r,0):=by
 have h0:wrong 67 11 (shut r.bytes)=0:=Xn r.bytes_len (by omega) (by simp [Rc.bytes]) (by omega)
 unfold getR
 rw [if_neg (by simp [h0]),qj6 h,if_pos h]
theorem Tt {g:Sg} (h:g.right):getS (shut g.bytes)=(g,0):=by
 have h0:wrong 83 8 (shut g.bytes)=0:=Xn g.bytes_len (by omega) (by simp [Sg.bytes]) (by omega)
 unfold getS
 rw [if_neg (by simp [h0]),qj7 h,if_pos h]
theorem Yk (m y n k:Nat) (hm:m≠76):wrong m k (List.replicate n y)=if n=64 then 2 else 14:=by
 unfold wrong
 rw [List.length_replicate]
 by_cases h:n=64
 ·rw [if_neg (by simp [h]),if_pos h,if_pos (Or.inl (by
   subst h
   intro e
   simp [List.replicate_succ] at e
   omega))]
 ·rw [if_pos h,if_neg h]
end RecM
namespace BitM
def pw (i:Int):Int:=2 ^ i.toNat
def hb (s i:Int):Bool:=decide (0≤i∧i≤15∧s/pw i%2=1)
theorem pw_succ (k:Nat):pw ((k:Int)+1)=pw k+pw k:=by
 unfold pw
 rw [show ((k:Int)+1).toNat=k+1 from by omega,show ((k:Int)).toNat=k from by omega,Int.pow_succ]
 omega
theorem pw_bd (k:Nat) (h:k≤16):1≤pw k∧pw k≤65536:=by
 unfold pw
 have h1:(1:Int)≤2 ^ k:=by exact_mod_cast Nat.one_le_two_pow
 have h2:(2:Int) ^ k≤2 ^ 16:=by exact_mod_cast Nat.pow_le_pow_right (by decide) h
 rw [show ((k:Int)).toNat=k from by omega]
 exact⟨h1,by simpa using h2⟩
theorem pw_half (k:Nat) (h:k≤15):pw k≤32768:=by
 have:=pw_bd (k+1) (by omega)
 have e:=pw_succ k
 rw [Int.natCast_add] at this
 have:pw ((k:Int)+1)≤65536:=this.2
 omega
theorem low_bit (s:Int) (k:Nat) (h:k≤15):(s%65536)/pw k%2=s/pw k%2:=by
 have e:(65536:Int)=pw k*(2*pw ((15-k:Nat):Int)):=by
  unfold pw
  rw [show ((k:Int)).toNat=k from by omega,show (((15-k:Nat)):Int).toNat=15-k from by omega]
  have h2:(2:Int) ^ (k+(15-k+1))=2 ^ k*2 ^ (15-k+1):=Int.pow_add ..
  rw [Int.pow_succ,show k+(15-k+1)=16 from by omega] at h2
  rw [Int.mul_comm 2 (2 ^ (15-k)),←h2]
  rfl
 have h1:=(pw_bd k (by omega)).1
 have e2:s%65536=s+pw k*(2*(pw ((15-k:Nat):Int)*(-(s/65536)))):=by
  have e3:pw k*(2*(pw ((15-k:Nat):Int)*(-(s/65536))))=65536*(-(s/65536)):=by rw [e,←Int.mul_assoc,←Int.mul_assoc,←Int.mul_assoc]
  rw [e3]
  omega
 rw [e2,Int.add_mul_ediv_left _ _ (by omega)]
 omega
theorem tmod16 (s:Int):(s.tmod 65536<0∧s.tmod 65536+65536=s%65536)∨(0≤s.tmod 65536∧s.tmod 65536=s%65536):=by
 have h:=Int.tmod_add_mul_tdiv s 65536
 have h1:=Int.tmod_lt_of_pos s (show (0:Int)<65536 by decide)
 have h2:=Int.lt_tmod_of_pos s (show (0:Int)<65536 by decide)
 omega
theorem ret_i {a b:Int} (h:a=b):Ending.returned (.int .i64 a)=.returned (.int .i64 b):=by rw [h]
theorem Xl (i:Nat) (w:World) (hi:i≤16):Calls Tryz.prog 72 #[.int .i64 (i:Nat)] w fun e w'=>e=.returned (.int .i64 (pw i))∧w=w':=by
 go_enter Tryz.func72,Tryz.ntmps72
 go_wp2
 go_loopw [3,4] (fun n k wr=>∃(j:Nat) (q:Int),j≤i∧n=.int .i64 q∧k=.int .i64 j∧Hid (q=pw j)∧w=wr) (fun _ k _=>i-(intOf k).toNat)
 case atStart=>exact⟨0,1,by omega,rfl,rfl,Hz rfl,rfl⟩
 case round=>
  obtain⟨j,q,hj,rfl,rfl,hq,rfl⟩:=hrel
  have hb:=pw_bd j (by omega)
  rw [←hq.o] at hb
  by_cases hlt:j<i
  ·have hn:=Hz (pw_succ j)
   rw [←hq.o] at hn
   go_wp2
   go_roundw
   case rel=>exact⟨j+1,q+q,by omega,rfl,by simp,Hz (by rw [Int.natCast_add];exact hn.o.symm),trivial⟩
   case measure=>simp [intOf];omega
  ·obtain rfl:j=i:=by omega
   go_wp2
   go_ret
   exact⟨ret_i hq.o,rfl⟩
theorem Ul {n:Int} (h0:0≤n) (h1:n<4294967296):wrap64 n=n:=by unfold wrap64;omega
theorem ret_b {a b:Bool} (h:a=b):Ending.returned (.bool a)=.returned (.bool b):=by rw [h]
theorem J6 (s i:Int) (w:World):Calls Tryz.prog 35 #[.int .i64 s,.int .i64 i] w fun e w'=>e=.returned (.bool (hb s i))∧w=w':=by
 by_cases h0:i<0
 ·have H:=Hz (show false=hb s i from by unfold hb;symm;simp;omega)
  go_enter Tryz.func35,Tryz.ntmps35
  go_wp2
  go_ret
  exact⟨ret_b H.o,rfl⟩
 ·by_cases h15:15<i
  ·have H:=Hz (show false=hb s i from by unfold hb;symm;simp;omega)
   go_enter Tryz.func35,Tryz.ntmps35
   go_wp2
   go_ret
   exact⟨ret_b H.o,rfl⟩
  ·obtain⟨k,rfl⟩:∃k:Nat,i=k:=⟨i.toNat,by omega⟩
   have HP:=Hz (fun w'=>Xl k w' (by omega))
   have hpb:=pw_bd k (by omega)
   have hlb:=Hz (low_bit s k (by omega))
   have H:Hid (∀L:Int,L=s%65536→((wrap64 ((wrap64 L).tdiv (pw k))).tmod 2==1)=hb s k∧((wrap64 (L.tdiv (pw k))).tmod 2==1)=hb s k):=Hz (fun L hL=>by
    have hL0:0≤L:=by omega
    have hq0:0≤L/pw k:=Int.ediv_nonneg hL0 (by omega)
    have hq1:L/pw k≤L:=Int.ediv_le_self _ hL0
    have hv:((L/pw k).tmod 2==1)=hb s k:=by
     rw [Int.tmod_eq_emod_of_nonneg hq0,hL,hlb.o]
     unfold hb
     have:(0≤(k:Int)∧(k:Int)≤15):=by omega
     simp [this]
     rfl
    rw [Ul hL0 (by omega),Int.tdiv_eq_ediv_of_nonneg hL0,Ul hq0 (by omega)]
    exact⟨hv,hv⟩)
   obtain⟨P,hP⟩:∃P,P=pw k:=⟨_,rfl⟩
   rw [←hP] at HP hpb
   rw [←hP] at H
   clear hP hlb
   rcases tmod16 s with⟨hn,he⟩|⟨hn,he⟩
   ·have H2:=Hz (H.o _ he).1
    clear H he
    go_enter Tryz.func35,Tryz.ntmps35
    go_wp2_with (go_at_call 72;refine (HP.o _).mono ?_;rintro e w' ⟨rfl,rfl⟩)
    go_ret
    exact⟨ret_b H2.o,rfl⟩
   ·have H2:=Hz (H.o _ he).2
    clear H he
    go_enter Tryz.func35,Tryz.ntmps35
    go_wp2_with (go_at_call 72;refine (HP.o _).mono ?_;rintro e w' ⟨rfl,rfl⟩)
    go_ret
    exact⟨ret_b H2.o,rfl⟩
end BitM
namespace BitB
open BitM
def wv (s i:Int):Int:=if 0≤i∧i≤15∧hb s i=false then s+pw i else s
theorem Y4 (a b:Nat):pw ((a+b:Nat):Int)=pw a*pw b:=by
 unfold pw
 rw [show (((a+b:Nat)):Int).toNat=a+b from by omega,show ((a:Int)).toNat=a from by omega,show ((b:Int)).toNat=b from by omega]
 exact Int.pow_add ..
theorem V3 (k:Nat):1≤pw k:=by
 unfold pw
 rw [show ((k:Int)).toNat=k from by omega]
 exact_mod_cast Nat.one_le_two_pow
theorem V4 (s:Int) {k:Nat} (h:k≤15):hb s k=decide (s/pw k%2=1):=by
 unfold hb
 have:(0≤(k:Int)∧(k:Int)≤15):=by omega
 simp [this]
theorem up_low (s:Int) {i k:Nat} (h:k<i):(s+pw i)/pw k%2=s/pw k%2:=by
 have e:pw i=pw k*(2*pw ((i-k-1:Nat):Int)):=by
  have h1:=Y4 k (1+(i-k-1))
  have h2:=Y4 1 (i-k-1)
  rw [show k+(1+(i-k-1))=i from by omega] at h1
  rw [h1,h2]
  rfl
 have hp:=V3 k
 rw [e,Int.add_mul_ediv_left _ _ (by omega)]
 omega
theorem qj9 (s:Int) (i:Nat):(s+pw i)/pw i=s/pw i+1:=by
 have hp:=V3 i
 have h:=Int.add_mul_ediv_left s 1 (show pw i≠0 by omega)
 rwa [Int.mul_one] at h
theorem up_high (s:Int) {i k:Nat} (h:i<k) (h0:s/pw i%2=0):(s+pw i)/pw k=s/pw k:=by
 have e:pw k=pw i*(2*pw ((k-i-1:Nat):Int)):=by
  have h1:=Y4 i (1+(k-i-1))
  have h2:=Y4 1 (k-i-1)
  rw [show i+(1+(k-i-1))=k from by omega] at h1
  rw [h1,h2]
  rfl
 have hp:=V3 i
 rw [e,←Int.ediv_ediv_of_nonneg (by omega),←Int.ediv_ediv_of_nonneg (by omega),←Int.ediv_ediv_of_nonneg (by omega),←Int.ediv_ediv_of_nonneg (by omega),qj9]
 rw [show (s/pw i+1)/2=s/pw i/2 from by omega]
theorem hb_wv (s i:Int) {k:Nat} (hk:k≤15):hb (wv s i) k=(hb s k || decide ((k:Int)=i)):=by
 unfold wv
 by_cases hi:0≤i∧i≤15∧hb s i=false
 ·rw [if_pos hi]
  obtain⟨j,rfl⟩:∃j:Nat,i=j:=⟨i.toNat,by omega⟩
  have hj:j≤15:=by omega
  have h0:=hi.2.2
  rw [V4 s hj] at h0
  have h0':s/pw j%2=0:=by have:=of_decide_eq_false h0;omega
  rw [V4 _ hk,V4 _ hk]
  rcases Nat.lt_trichotomy k j with h|h|h
  ·rw [up_low s h]
   simp;omega
  ·subst h
   rw [qj9]
   simp;omega
  ·rw [up_high s h h0']
   simp;omega
 ·rw [if_neg hi]
  by_cases he:(k:Int)=i
  ·subst he
   have:hb s k=true:=by
    cases h:hb s k
    ·exact absurd ⟨by omega,by omega,h⟩ hi
    ·rfl
   simp [this]
  ·simp [he]
end BitB
namespace BitA
open BitM
def lim (n:Int):Nat:=(if n<0 then 0 else if 16<n then 16 else n).toNat
theorem lim_le (n:Int):lim n≤16:=by unfold lim;repeat (first|omega|split)
def miss (s:Int):Nat→List Int
 | 0=>[]
 | k+1=>miss s k++(if hb s k then [] else [(k:Int)])
end BitA
namespace BitC
open BitM BitA BitB
theorem wv_no {s:Int} {k:Nat} (h:k≤15) (h0:hb s k=false):wv s k=s+pw k:=by
 unfold wv
 rw [if_pos ⟨by omega,by omega,h0⟩]
theorem qza {h:Int} {m k:Nat} (_:0≤h) (h1:h<2 ^ m) (hk:k<m) (hm:m≤16) (hn:hb h k=false):h+pw k<2 ^ m:=by
 rw [V4 _ (by omega)] at hn
 have hn':h/pw k%2=0:=by have:=of_decide_eq_false hn;omega
 have e:(2:Int) ^ m=pw k*(2*pw ((m-k-1:Nat):Int)):=by
  have h2:=Y4 k (1+(m-k-1))
  have h3:=Y4 1 (m-k-1)
  rw [show k+(1+(m-k-1))=m from by omega] at h2
  have h4:(2:Int) ^ m=pw m:=by unfold pw;rw [show ((m:Int)).toNat=m from by omega]
  rw [h4,h2,h3]
  rfl
 have hp:=V3 k
 have hq:=V3 (m-k-1)
 obtain⟨P,hP⟩:∃P,P=pw k:=⟨_,rfl⟩
 obtain⟨Q,hQ⟩:∃Q,Q=pw ((m-k-1:Nat):Int):=⟨_,rfl⟩
 rw [e] at h1 ⊢
 rw [←hP] at hp hn' h1 ⊢
 rw [←hQ] at hq h1 ⊢
 have h5:h/P<2*Q:=Int.ediv_lt_of_lt_mul (by omega) (by rw [Int.mul_comm];exact h1)
 have h6:h/P+2≤2*Q:=by omega
 have h7:=Int.lt_ediv_add_one_mul_self h (show 0<P by omega)
 have h8:=Int.mul_le_mul_of_nonneg_right h6 (show 0≤P by omega)
 rw [Int.mul_comm (2*Q) P,show h/P+2=(h/P+1)+1 from by omega,Int.add_mul] at h8
 omega
theorem bit_nat (n:Nat) {k:Nat} (h:k≤15):hb (n:Int) k=n.testBit k:=by
 rw [V4 _ h,Nat.testBit_eq_decide_div_mod_eq]
 have e:pw k=((2 ^ k:Nat):Int):=by
  unfold pw
  rw [show ((k:Int)).toNat=k from by omega]
  simp
 rw [e,Bool.eq_iff_iff]
 simp only [decide_eq_true_eq]
 omega
theorem lim_nat {k:Nat} (h:k≤16):lim (k:Int)=k:=by unfold lim;repeat (first|omega|split)
end BitC
namespace StgM
open DskA DskB DskD RecM BitM BitA BitB BitC
structure Slt where
 (p k:Nat)
 has:Bool
 g:Sg
def Slt.at_ (t:Slt):Nat:=10*t.p+2+4*t.k
def Slt.dat (t:Slt) (i:Nat):Nat:=t.at_+1+i
def fresh (n z:Int):Sg:=⟨n,z,0⟩
def more (g:Sg) (no:Int):Sg:={ g with h:=wv g.h no }
def into (c:List Nat) (o:Nat) (d:List Nat):List Nat:=c.take o++(d++c.drop (o+16))
def pB (s:St) (t:Slt) (n z:Int):St×Slt×Int:=
 if (fresh n z).right then (if (put1 s t.at_ (shut (fresh n z).bytes)).2=0 then ((put1 s t.at_ (shut (fresh n z).bytes)).1,{ t with has:=true,g:=fresh n z },0) else ((put1 s t.at_ (shut (fresh n z).bytes)).1,t,8)) else (s,t,3)
def pC (s:St) (t:Slt):St×Slt×Int:=
 if (put1 s t.at_ (zs 64)).2=0 then ((put1 s t.at_ (zs 64)).1,{ t with has:=false,g:=Sg.none },0) else ((put1 s t.at_ (zs 64)).1,t,8)
def sect (s:St) (t:Slt) (no:Nat) (d:List Nat):List Nat:=into (now s (t.dat (no/4))) (16*(no%4)) d
def pP (s:St) (t:Slt) (n no:Int) (d:List Nat):St×Slt×Int:=
 if t.has=false then (s,t,16) else if n≠t.g.s then (s,t,17) else if no<0∨(blocks t.g.z:Int)≤no then (s,t,3) else if d.length≠16 then (s,t,14)
 else if hb t.g.h no=true then (s,t,0)
 else if (put1 s (t.dat (no.toNat/4)) (sect s t no.toNat d)).2≠0 then ((put1 s (t.dat (no.toNat/4)) (sect s t no.toNat d)).1,t,8)
 else if (put1 (put1 s (t.dat (no.toNat/4)) (sect s t no.toNat d)).1 t.at_ (shut (more t.g no).bytes)).2≠0 then ((put1 (put1 s (t.dat (no.toNat/4)) (sect s t no.toNat d)).1 t.at_ (shut (more t.g no).bytes)).1,t,8)
 else ((put1 (put1 s (t.dat (no.toNat/4)) (sect s t no.toNat d)).1 t.at_ (shut (more t.g no).bytes)).1,{ t with g:=more t.g no },0)
def pO (s:St) (p k:Nat):Slt:=⟨p,k,decide ((getS (now s (10*p+2+4*k))).2=0),(getS (now s (10*p+2+4*k))).1⟩
def pY (s:St) (t:Slt):List Nat×Int:=
 if t.has=false then ([],16) else if miss t.g.h (blocks t.g.z)≠[] then ([],11) else if s.down=true then ([],8)
 else ((now s (t.dat 0)++(now s (t.dat 1)++now s (t.dat 2))).take t.g.z.toNat,0)
structure Rf where
 has:Bool
 g:Sg
 bl:List (List Nat)
def Rf.none:Rf:=⟨false,Sg.none,[]⟩
def rB (x:Rf) (n z:Int):Rf×Int:=if (fresh n z).right then (⟨true,fresh n z,List.replicate (blocks z) []⟩,0) else (x,3)
def rP (x:Rf) (n no:Int) (d:List Nat):Rf×Int:=
 if x.has=false then (x,16) else if n≠x.g.s then (x,17) else if no<0∨(x.bl.length:Int)≤no then (x,3) else if d.length≠16 then (x,14)
 else if x.bl.getD no.toNat []≠[] then (x,0) else (⟨true,{ x.g with h:=x.g.h+pw no },x.bl.set no.toNat d⟩,0)
def rY (x:Rf):List Nat×Int:=
 if x.has=false then ([],16) else if [] ∈ x.bl then ([],11) else (x.bl.flatten.take x.g.z.toNat,0)
structure Rf.wf (x:Rf):Prop where
 no:x.has=false→x=Rf.none
 right:x.has=true→x.g.right
 len:x.has=true→x.bl.length=blocks x.g.z
 each:∀i,i<x.bl.length→(x.bl.getD i []=[]∧hb x.g.h i=false)∨((x.bl.getD i []).length=16∧hb x.g.h i=true)
theorem Wk:Rf.none.wf:=⟨fun _=>rfl,fun h=>(by cases h),fun h=>(by cases h),fun i hi=>(by simp [Rf.none] at hi)⟩
theorem qzb (i:Int):hb 0 i=false:=by unfold hb;simp
theorem K7 {n z:Int} (h:(fresh n z).right):(Rf.mk true (fresh n z) (List.replicate (blocks z) [])).wf:=
 ⟨fun e=>(by cases e),fun _=>h,fun _=>(by simp [fresh]),fun i hi=>.inl ⟨by
  have hi':i<blocks z:=by simpa using hi
  rw [Mg,List.getElem?_replicate,if_pos hi'];rfl,qzb _⟩⟩
theorem Jg {z:Int} (h:z≤160):blocks z≤10:=by unfold blocks;omega
theorem rP_yes {x:Rf} {no:Nat} {d:List Nat} (h:x.wf) (hh:x.has=true) (hn:no<x.bl.length) (hd:d.length=16) (h0:x.bl.getD no []=[]) :
 hb x.g.h no=false∧(Rf.mk true { x.g with h:=x.g.h+pw no } (x.bl.set no d)).wf:=by
 have hr:=h.right hh
 have hl:=h.len hh
 have h10:=Jg hr.2.1.2
 have hb0:hb x.g.h no=false:=by
  rcases h.each no hn with h1|h1
  ·exact h1.2
  ·rw [h0] at h1;exact absurd h1.1 (by simp)
 refine⟨hb0,⟨fun e=>(by cases e),fun _=>⟨hr.1,hr.2.1,?_⟩,fun _=>?_,fun i hi=>?_⟩⟩
 ·have hp:=V3 no
  exact⟨by have:=hr.2.2.1;show 0≤x.g.h+pw no;omega,qza (m:=blocks x.g.z) hr.2.2.1 hr.2.2.2 (by omega) (by omega) hb0⟩
 ·show (x.bl.set no d).length=blocks x.g.z
  rw [List.length_set];exact hl
 ·have hi':i<x.bl.length:=by simpa using hi
  show ((x.bl.set no d).getD i []=[]∧hb (x.g.h+pw no) i=false)∨(((x.bl.set no d).getD i []).length=16∧hb (x.g.h+pw no) i=true)
  rw [←wv_no (by omega) hb0,hb_wv _ _ (by omega),Mg,List.getElem?_set]
  by_cases e:no=i
  ·subst e
   rw [if_pos rfl,if_pos hn]
   exact .inr ⟨hd,by simp⟩
  ·rw [if_neg e,←Mg]
   have:decide ((i:Int)=(no:Int))=false:=by simp;omega
   rw [this,Bool.or_false]
   exact h.each i hi'
end StgM
namespace RecA
open Mem RecM
open Classical in
theorem Q2 (p:Prop):∃b:Bool,b=true↔p:=⟨decide p,by simp⟩
@[reducible] def rval (r:Rc):Value:=.agg #[.int .i64 r.p,.int .i64 r.q,.int .i64 r.a,.int .i64 r.c,.int .i64 r.l,.int .i64 r.b]
@[reducible] def sval (g:Sg):Value:=.agg #[.int .i64 g.s,.int .i64 g.z,.int .i64 g.h]
def rcells (r:Rc):List Value:=[.int .i64 r.p,.int .i64 r.q,.int .i64 r.a,.int .i64 r.c,.int .i64 r.l,.int .i64 r.b]
def scells (g:Sg):List Value:=[.int .i64 g.s,.int .i64 g.z,.int .i64 g.h]
def n64 (x:Int):Prop:=-9223372036854775808≤x∧x≤9223372036854775807
structure rok (r:Rc):Prop where
 p:n64 r.p
 q:n64 r.q
 a:n64 r.a
 c:n64 r.c
 l:n64 r.l
 b:n64 r.b
structure sok (g:Sg):Prop where
 s:n64 g.s
 z:n64 g.z
 h:n64 g.h
def Yes (w:World) (b:Bool) (e:Ending) (w':World):Prop:=e=.returned (.bool b)∧Bw w w'
structure Bx (w:World) (g:Nat) (t:TypeId) (cs:List Value) (wr:World):Prop where
 blk:Blk wr g t cs
 new_:w.heap.size≤g
 bel:Bw w wr
theorem Bx.new (w:World) (t:TypeId) (cs:List Value):Bx w w.heap.size t cs (w.alloc (.cells cs.toArray t)):=⟨Blk.new w _ _,Mr _,(Mb _ _).alloc (Mr _) _⟩
theorem Bx.step {w wr w':World} {g:Nat} {t:TypeId} {cs:List Value} (h:Bx w g t cs wr) (hb:Bw wr w'):Bx w g t cs w':=⟨h.blk.below hb,h.new_,h.bel.trans (hb.mono h.bel.size)⟩
theorem V2 {a b:Int} (h:a=b):Value.int .i64 a=.int .i64 b:=by rw [h]
end RecA
namespace RecA
open Kit RecM
theorem Z0 (z:Int) (w:World) (h0 : -9223372036854775808≤z) (h1:z≤1000):Calls Tryz.prog 121 #[.int .i64 z] w fun e w'=>e=.returned (.int .i64 (blocks z:Nat))∧w=w':=by
 go_enter Tryz.func121,Tryz.ntmps121
 go_wp2
 go_loop [0,3] (fun s k=>∃j:Nat,k=.int .i64 j∧s=.int .i64 (z-16*j)∧Hid ((j:Int)=0∨0<z-16*((j:Int)-1))) (fun _ k=>100-(intOf k).toNat)
 case atStart=>exact⟨0,rfl,by simp,Hz (Or.inl rfl)⟩
 case round=>
  obtain⟨j,rfl,rfl,hj⟩:=hrel
  have hj63:j≤63:=by have:=hj.o;omega
  by_cases hz:0<z-16*(j:Int)
  ·go_wp2
   go_round
   case rel=>exact⟨j+1,by go_num,V2 (by omega),Hz (Or.inr (by omega))⟩
   case measure=>simp [intOf];omega
  ·go_wp2
   go_ret
   refine⟨Qg ?_,rfl⟩
   have:=hj.o
   unfold blocks
   omega
theorem Vg (g:Sg) (w:World) (hk:sok g) (b:Bool) (hb:b=true↔g.right):Calls Tryz.prog 120 #[sval g] w (Yes w b):=by
 obtain⟨s,z,h⟩:=g
 have HB:=Hz (show b=true↔(1≤s∧s≤65535)∧(1≤z∧z≤160)∧(0≤h∧h<2 ^ blocks z) from hb)
 have hh:h≤9223372036854775807:=hk.h.2
 clear hb hk
 have HX:=Hz (Bx.new w 103 (scells ⟨s,z,h⟩))
 have HF:=Hz (show ∀q:Prop,(b=true→q)→¬q→b=false from fun q h hp=>by rw [Bool.eq_false_iff];exact fun hb=>hp (h hb))
 show Calls _ _ #[.agg #[.int .i64 s,.int .i64 z,.int .i64 h]] w _
 by_cases g0:s<1
 ·have hbf:=Hz (HF.o _ (fun h=>(HB.o.1 h).1) (by omega))
  go_enter Tryz.func120,Tryz.ntmps120
  go_wp2
  go_ret
  exact⟨by rw [hbf.o];rfl,HX.o.bel⟩
 ·skip
  by_cases g1:65535<s
  ·have hbf:=Hz (HF.o _ (fun h=>(HB.o.1 h).1) (by omega))
   go_enter Tryz.func120,Tryz.ntmps120
   go_wp2
   go_ret
   exact⟨by rw [hbf.o];rfl,HX.o.bel⟩
  ·skip
   by_cases g2:z<1
   ·have hbf:=Hz (HF.o _ (fun h=>(HB.o.1 h).2.1) (by omega))
    go_enter Tryz.func120,Tryz.ntmps120
    go_wp2
    go_ret
    exact⟨by rw [hbf.o];rfl,HX.o.bel⟩
   ·skip
    by_cases g3:160<z
    ·have hbf:=Hz (HF.o _ (fun h=>(HB.o.1 h).2.1) (by omega))
     go_enter Tryz.func120,Tryz.ntmps120
     go_wp2
     go_ret
     exact⟨by rw [hbf.o];rfl,HX.o.bel⟩
    ·skip
     by_cases g4:h<0
     ·have hbf:=Hz (HF.o _ (fun h=>(HB.o.1 h).2.2.1) (by omega))
      go_enter Tryz.func120,Tryz.ntmps120
      go_wp2
      go_ret
      exact⟨by rw [hbf.o];rfl,HX.o.bel⟩
     ·skip
      have hb10:blocks z≤10:=by unfold blocks;omega
      obtain⟨K,hK⟩:∃K,K=blocks z:=⟨_,rfl⟩
      have HK:=Hz (fun w'=>hK▸Z0 z w' (by omega) (by omega))
      rw [←hK] at HB hb10
      clear hK
      go_enter Tryz.func120,Tryz.ntmps120
      go_wp2
      go_loop [3,4] (fun m k=>∃j:Nat,j≤K∧k=.int .i64 j∧m=.int .i64 ((2 ^ j:Nat):Int)) (fun _ k=>K-(intOf k).toNat)
      case atStart=>exact⟨0,by omega,rfl,rfl⟩
      case round=>
       obtain⟨j,hj,rfl,rfl⟩:=hrel
       have hp:2 ^ j≤1024:=Ml (Nat.pow_le_pow_right (by omega) (Ml hj hb10)) (by decide:2 ^ 10≤1024)
       obtain⟨P,hP⟩:∃P,P=2 ^ j:=⟨_,rfl⟩
       have HP:=Hz hP
       rw [←hP] at hp ⊢
       clear hP
       by_cases hjk:j<K
       ·go_wp2_with (go_at_call 121;refine (HK.o _).mono ?_;rintro e w' ⟨rfl,rfl⟩)
        go_round
        case rel=>exact⟨j+1,by omega,by go_num,V2 (by rw [Nat.pow_succ,←HP.o];omega)⟩
        case measure=>simp [intOf];omega
       ·obtain rfl:j=K:=by omega
        go_wp2_with (go_at_call 121;refine (HK.o _).mono ?_;rintro e w' ⟨rfl,rfl⟩)
        go_ret
        refine⟨Q3 ?_,HX.o.bel⟩
        have hc:((2 ^ j:Nat):Int)=(2:Int) ^ j:=by simp
        rw [Bool.eq_iff_iff,HB.o,←hc,←HP.o]
        simp
        omega
end RecA
namespace StgA
open Kit Byt Mem RecM BitM StgM
open RecA (n64 sok Z0 Vg)
def hd (x:Rf) (A:Option Addr) (n c:Nat):List Value:=[.bool x.has,.int .i64 x.g.s,.int .i64 x.g.z,.int .i64 x.g.h,.slice A n c]
structure RS (w:World) (H N:Nat→Prop) (a:Nat) (x:Rf) (E:List Sl) (A:Option Addr) (n c:Nat):Prop where
 head:Blk w a 106 (hd x A n c)
 own:w.ownsRow 0 31 1 (.slice A n c) n (E.map Sl.val)
 bl:x.bl=E.map (·.xs)
 ent:∀e ∈ E,Rd w e.A e.n e.c (u8n e.xs)∧∀b o,e.A=some ⟨b,o,none⟩→N b
 ha:H a
 ho:∀k,(Value.slice A n c).ownBlock=some k→H k∧k≠a
 hlt:∀k,H k→k<w.heap.size
 nlt:∀k,N k→k<w.heap.size
 dis:∀k,H k→¬N k
def RSl (w:World) (H N:Nat→Prop) (a:Nat) (x:Rf):Prop:=∃E A n c,RS w H N a x E A n c
section
variable {w w':World} {H N G:Nat→Prop} {a n c:Nat} {x:Rf} {E:List Sl} {A:Option Addr}
theorem RS.len (h:RS w H N a x E A n c):x.bl.length=n:=by
 have h1:=h.own.1
 rw [List.length_map,Nat.mul_one] at h1
 rw [h.bl,List.length_map]
 exact h1
theorem RS.keep (h:RS w H N a x E A n c) (k:Keep G w w') (h1:∀i,H i→¬G i) (h2:∀i,N i→¬G i):RS w' H N a x E A n c:=
 ⟨k.blk h.head (h1 _ h.ha),k.own h.own fun i hi=>h1 i (h.ho i hi).1,h.bl,fun e he=>⟨k.rd (h.ent e he).1 fun _ b o hA=>h2 b ((h.ent e he).2 b o hA),(h.ent e he).2⟩,h.ha,h.ho,
  fun i hi=>Mw (h.hlt i hi) k.size,fun i hi=>Mw (h.nlt i hi) k.size,h.dis⟩
theorem RSl.keep (h:RSl w H N a x) (k:Keep G w w') (h1:∀i,H i→¬G i) (h2:∀i,N i→¬G i):RSl w' H N a x:=by
 obtain⟨E,A,n,c,h⟩:=h
 exact⟨E,A,n,c,h.keep k h1 h2⟩
theorem RS.below (h:RS w H N a x E A n c) (hb:Bw w w'):RS w' H N a x E A n c:=h.keep (Keep.of_below (F:=fun _=>False) hb) (fun _ _ h=>h) (fun _ _ h=>h)
theorem RSl.below (h:RSl w H N a x) (hb:Bw w w'):RSl w' H N a x:=h.keep (Keep.of_below (F:=fun _=>False) hb) (fun _ _ h=>h) (fun _ _ h=>h)
theorem RS.cells (h:RS w H N a x E A n c):w.cell? ⟨a,0,none⟩=some (.bool x.has)∧w.cell? ⟨a,1,none⟩=some (.int .i64 x.g.s)∧w.cell? ⟨a,2,none⟩=some (.int .i64 x.g.z)∧w.cell? ⟨a,3,none⟩=some (.int .i64 x.g.h)∧w.cell? ⟨a,4,none⟩=some (.slice A n c):=
 ⟨h.head.cell rfl,h.head.cell rfl,h.head.cell rfl,h.head.cell rfl,h.head.cell rfl⟩
theorem RS.cap (h:RS w H N a x E A n c):n≤c∧c≤9223372036854775807:=by
 rcases h.own.2 with⟨hv,h0⟩|⟨g,cap,cur,hv,_,_,h1,h2,_⟩
 ·simp only [Value.slice.injEq] at hv
  obtain⟨_,rfl,rfl⟩:=hv
  exact⟨by omega,by omega⟩
 ·simp only [Value.slice.injEq] at hv
  obtain⟨_,_,rfl⟩:=hv
  refine⟨h1,?_⟩
  unfold maxLen at h2
  omega
end
def rW (x:Rf) (n no:Int) (d:Nat):Int:=
 if x.has=false then 16 else if n≠x.g.s then 17 else if no<0∨(x.bl.length:Int)≤no then 3 else if d≠16 then 14 else 0
theorem U4 {x:Rf} {n no:Int} {d:List Nat} (h:rW x n no d.length≠0):rP x n no d=(x,rW x n no d.length):=by
 unfold rW at h ⊢
 unfold rP
 by_cases h1:x.has=false
 ·rw [if_pos h1,if_pos h1]
 rw [if_neg h1] at h ⊢
 rw [if_neg h1]
 by_cases h2:n≠x.g.s
 ·rw [if_pos h2,if_pos h2]
 rw [if_neg h2] at h ⊢
 rw [if_neg h2]
 by_cases h3:no<0∨(x.bl.length:Int)≤no
 ·rw [if_pos h3,if_pos h3]
 rw [if_neg h3] at h ⊢
 rw [if_neg h3]
 by_cases h4:d.length≠16
 ·rw [if_pos h4,if_pos h4]
 rw [if_neg h4] at h
 exact absurd rfl h
theorem qzc (H N:Nat→Prop) (a:Nat) (x:Rf) (n no:Int) (D:Option Addr) (m d:Nat) (w:World) (h:RSl w H N a x) (hm:m≤9223372036854775807) :
 Calls Tryz.prog 122 #[.pointer (some ⟨a,0,none⟩),.int .i64 n,.int .i64 no,.slice D m d] w fun e w'=>e=.returned (.int .i64 (rW x n no m))∧w=w':=by
 obtain⟨E,A,k,c,h⟩:=h
 obtain⟨c0,c1,c2,c3,c4⟩:=h.cells
 have hlen:=h.len
 have hcap:=h.cap
 have hk63:k≤9223372036854775807:=by omega
 clear h
 cases hh:x.has
 ·have hr:rW x n no m=16:=by unfold rW;rw [if_pos hh]
  rw [hh] at c0
  have HR:=Hz hr
  clear hr hlen
  go_enter Tryz.func122,Tryz.ntmps122
  go_wp2
  go_ret
  exact⟨by rw [HR.o];rfl,rfl⟩
 ·rw [hh] at c0
  by_cases hs:n=x.g.s
  ·by_cases hno:no<0
   ·have HR:=Hz (show rW x n no m=3 from by unfold rW;rw [if_neg (by rw [hh];simp),if_neg (by simpa using hs),if_pos (.inl hno)])
    have hd:(n != x.g.s)=false:=by simpa using hs
    clear hs hlen
    go_enter Tryz.func122,Tryz.ntmps122
    go_wp2
    go_ret
    exact⟨by rw [HR.o];rfl,rfl⟩
   ·by_cases hle:(k:Int)≤no
    ·have HR:=Hz (show rW x n no m=3 from by unfold rW;rw [if_neg (by rw [hh];simp),if_neg (by simpa using hs),if_pos (.inr (by omega))])
     have hd:(n != x.g.s)=false:=by simpa using hs
     clear hs hlen
     go_enter Tryz.func122,Tryz.ntmps122
     go_wp2
     go_ret
     exact⟨by rw [HR.o];rfl,rfl⟩
    ·by_cases hm16:m=16
     ·have HR:=Hz (show rW x n no m=0 from by unfold rW;rw [if_neg (by rw [hh];simp),if_neg (by simpa using hs),if_neg (by omega),if_neg (by omega)])
      have hd:(n != x.g.s)=false:=by simpa using hs
      clear hs hlen
      subst hm16
      go_enter Tryz.func122,Tryz.ntmps122
      go_wp2
      go_ret
      exact⟨by rw [HR.o];rfl,rfl⟩
     ·have HR:=Hz (show rW x n no m=14 from by unfold rW;rw [if_neg (by rw [hh];simp),if_neg (by simpa using hs),if_neg (by omega),if_pos hm16])
      have hd:(n != x.g.s)=false:=by simpa using hs
      have hd2:((m:Int) != 16)=true:=by simp;omega
      clear hs hlen hm16
      go_enter Tryz.func122,Tryz.ntmps122
      go_wp2
      go_ret
      exact⟨by rw [HR.o];rfl,rfl⟩
  ·have HR:=Hz (show rW x n no m=17 from by unfold rW;rw [if_neg (by rw [hh];simp),if_pos hs])
   have hd:(n != x.g.s)=true:=by simpa using hs
   clear hs hlen
   go_enter Tryz.func122,Tryz.ntmps122
   go_wp2
   go_ret
   exact⟨by rw [HR.o];rfl,rfl⟩
end StgA
namespace StgB
open Kit Byt Mem RecM BitM StgM StgA
open RecA (n64 sok Z0 Vg Q2)
def Rgo (H N:Nat→Prop) (a:Nat) (w:World) (v:Value) (x':Rf) (e:Ending) (w':World):Prop:=
 e=.returned v∧∃H' N',RSl w' H' N' a x'∧Keep H w w'∧(∀k,H' k→H k∨w.heap.size≤k)∧(∀k,N' k→N k∨w.heap.size≤k)
theorem info_bs:(Tryz.prog.info? 31).map (fun i=>(i.zero,i.size,i.bytes))=some (some (.slice none 0 0),1,24):=by kernel_rfl
theorem Jl:(Tryz.prog.info? 103).map (·.size)=some 3:=by kernel_rfl
def noSl:Sl:=⟨none,0,0,[]⟩
theorem Tn (k:Nat):(List.replicate k noSl).map Sl.val=List.replicate k (Value.slice none 0 0):=by simp [noSl,Sl.val]
theorem no_xs (k:Nat):(List.replicate k noSl).map (·.xs)=List.replicate k []:=by simp [noSl]
theorem rbegin_any (H N:Nat→Prop) (a:Nat) (x:Rf) (n z:Int) (w:World) (h:RSl w H N a x) (hn:n64 n) (hz:n64 z) :
 Calls Tryz.prog 74 #[.pointer (some ⟨a,0,none⟩),.int .i64 n,.int .i64 z] w (Rgo H N a w (.int .i64 (rB x n z).2) (rB x n z).1):=by
 obtain⟨i0,hi0,hz0,hz1,hz2⟩:=info_parts info_bs
 obtain⟨E,A,m,c,h⟩:=h
 have hal:=h.hlt a h.ha
 have HS:=Hz h
 have HR:=Hz (fun b (hb:b=true↔(fresh n z).right) w'=>Vg (fresh n z) w' ⟨hn,hz,by show n64 0;unfold n64;omega⟩ b hb)
 by_cases hr:(fresh n z).right
 ·have HRT:=Hz (fun w'=>HR.o true (by simpa using hr) w')
  have hz1':1≤z∧z≤160:=hr.2.1
  have HBL:=Hz (fun w'=>Z0 z w' (by omega) (by omega))
  have hk10:=Jg hz1'.2
  have hk1:1≤blocks z:=by unfold blocks;omega
  have HX:=Hz (show rB x n z=(⟨true,fresh n z,List.replicate (blocks z) []⟩,0) from by unfold rB;rw [if_pos hr])
  obtain⟨k,hk⟩:∃k,k=blocks z:=⟨_,rfl⟩
  rw [←hk] at HBL hk10 hk1 HX
  clear hk hr HR h hn hz
  have HX':Hid (∀w',Calls Tryz.prog 120 #[.agg #[.int .i64 n,.int .i64 z,.int .i64 0]] w' (RecA.Yes w' true)):=HRT
  go_enter Tryz.func74,Tryz.ntmps74
  go_wp2_with fail
  refine (HX'.o _).mono ?_
  rintro e w1 ⟨rfl,hb1⟩
  have hS1:=HS.o.below (((Mb w.heap.size w).alloc (Mr _) (.cells #[.int .i64 n,.int .i64 z,.int .i64 0] 103)).trans (hb1.mono (by simp)))
  have hB1:=(Blk.new w 103 [.int .i64 n,.int .i64 z,.int .i64 0]).below hb1
  have hK1:Keep (fun i=>i=a) w w1:=Keep.of_below (((Mb w.heap.size w).alloc (Mr _) (.cells #[.int .i64 n,.int .i64 z,.int .i64 0] 103)).trans (hb1.mono (by simp)))
  have c0:=hS1.head.cell (i:=0) rfl
  have f0:=hS1.head.frozen 0
  have HS1:=Hz hS1
  have HB1:=Hz hB1
  have HK1:=Hz hK1
  have hne:w.heap.size≠a:=by omega
  clear hS1 hB1 hK1 hb1 HX' HRT
  go_wp2_with (first
   | (refine Qj rfl 103 _ rfl w.heap.size rfl (HB1.o.far (p:=⟨a,0,none⟩) hne _) Tryz.underlying103 rfl Jl ?_)
   | (refine Qk rfl 103 (.tmp 20) (.tmp 18) rfl a 1 rfl [.int .i64 n,.int .i64 z,.int .i64 0] rfl (HS1.o.head.set 0 (.bool true)) (by simp [hd]) Jl (by intro u hu;simp at hu;rcases hu with rfl|rfl|rfl <;> rfl) ?_;intro w2 hB2 ho2;have HB2:=Hz (show Blk w2 a 106 (hd ⟨true,fresh n z,[]⟩ A m c) from hB2.o))
   | (go_at_call 121;refine (HBL.o _).mono ?_;rintro e w' ⟨rfl,rfl⟩)
   | (at_make;refine Qx _ rfl _ _ _ rfl 31 i0 _ 24 Tryz.underlying104 hi0 hz0 hz1 hz2 rfl _ _ _ _ k k rfl rfl (by omega) (by omega) (by omega) (by omega) (by omega) ?_;intro w3 H3 hb3 hs3;have c4:=(HB2.o.below hb3).cell (i:=4) rfl;have f4:=(HB2.o.below hb3).frozen 4))
  go_ret
  have ha:H a:=HS.o.ha
  have ks:Keep (fun i=>i=a) w1 w2:=(Keep.set (F:=fun i=>i=a) w1 0 (.bool true) rfl).trans (Keep.only (F:=fun i=>i=a) ho2.o rfl) fun i hi=>.inl hi
  have k3:Keep (fun i=>i=a) w w3:=(HK1.o.trans ks (fun i hi=>.inl hi)).trans (Keep.of_below (F:=fun i=>i=a) hb3) (fun i hi=>.inl hi)
  have k5:Keep (fun i=>i=a) w (w3.setCell ⟨a,4,none⟩ (.slice (some ⟨w2.heap.size,0,none⟩) k k)):=k3.trans (Keep.set (F:=fun i=>i=a) w3 4 _ rfl) fun i hi=>.inl hi
  have hw2:w.heap.size≤w2.heap.size:=by have:=HK1.o.size;have:=ks.size;omega
  have hs5:(w3.setCell ⟨a,4,none⟩ (.slice (some ⟨w2.heap.size,0,none⟩) k k)).heap.size=w2.heap.size+1:=by rw [←hs3];simp [World.setCell]
  have hown:w3.ownsRow 0 31 1 (.slice (some ⟨w2.heap.size,0,none⟩) k k) k (List.replicate k (.slice none 0 0)):=by
   have h:=Q0 (base:=0) (n:=k) H3.o (Nat.zero_le _) (by simp) (by simp;omega)
   rw [List.length_replicate] at h
   simpa using h
  refine⟨by rw [HX.o];rfl,fun i=>i=a∨i=w2.heap.size,fun _=>False,⟨List.replicate k noSl,some ⟨w2.heap.size,0,none⟩,k,k,?_,?_,?_,?_,.inl rfl,?_,?_,fun i hi=>hi.elim,fun _ _ h=>h⟩,k5.mono (fun i _ hi=>hi▸ha),fun i hi=>?_,fun i hi=>hi.elim⟩
  ·rw [HX.o]
   exact (HB2.o.below hb3).set 4 _
  ·rw [Tn]
   exact (Keep.set (F:=fun i=>i=a) w3 4 _ rfl).own hown fun i hi=>by
    have hi':w2.heap.size=i:=Option.some.inj hi
    show ¬i=a
    omega
  ·rw [HX.o,no_xs]
  ·intro e he
   rw [List.eq_of_mem_replicate he]
   exact⟨Rd.nil _,fun b o hA=>by cases hA⟩
  ·intro i hi
   have hi':w2.heap.size=i:=Option.some.inj hi
   exact⟨.inr hi'.symm,by omega⟩
  ·intro i hi
   rw [hs5]
   rcases hi with rfl|rfl <;> omega
  ·rcases hi with rfl|rfl
   ·exact .inl ha
   ·exact .inr hw2
 ·have HRF:=Hz (fun w'=>HR.o false (by simpa using hr) w')
  have HX:=Hz (show rB x n z=(x,3) from by unfold rB;rw [if_neg hr])
  have HX':Hid (∀w',Calls Tryz.prog 120 #[.agg #[.int .i64 n,.int .i64 z,.int .i64 0]] w' (RecA.Yes w' false)):=HRF
  clear hr HR h hn hz HRF
  go_enter Tryz.func74,Tryz.ntmps74
  go_wp2_with fail
  refine (HX'.o _).mono ?_
  rintro e w1 ⟨rfl,hb1⟩
  have HL:=Hz (((Mb w.heap.size w).alloc (Mr _) (.cells #[.int .i64 n,.int .i64 z,.int .i64 0] 103)).trans (hb1.mono (by simp)))
  clear hb1
  go_wp2
  go_ret
  refine⟨by rw [HX.o];rfl,H,N,⟨E,A,m,c,?_⟩,Keep.of_below HL.o,fun k hk=>.inl hk,fun k hk=>.inl hk⟩
  rw [HX.o]
  exact HS.o.below HL.o
end StgB
end Go.Proofs.YtpidbddllnidhaaGreatDoor
