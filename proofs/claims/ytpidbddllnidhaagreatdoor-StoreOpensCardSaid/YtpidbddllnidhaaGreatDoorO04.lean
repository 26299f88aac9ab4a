/- Parts of the proof, each under the conditions that it names. -/
import Derived.Test.YtpidbddllnidhaaGreatDoorO03
import Derived.BigRegion
set_option maxRecDepth 100000
set_option maxHeartbeats 12800000
namespace Go.Proofs.YtpidbddllnidhaaGreatDoor
open Go.RowKit
namespace ShaC
open ShaM ShaB
theorem Z4 {P:Program} {fn:Func} {p:Tmp} {ty:TypeId} {R:Ending→World→Prop} {a:Act} {w:World} {g:Nat} {t:TypeId} {cs:Array Value} {fr:Nat×Nat} {d:TypeDesc} (h:fn.results = #[.cell p ty]) (h0:a.defers=[])
 (hp:a.tmps.getD p undef=.pointer (some ⟨g,0,none⟩)) (hg:w.heap[g]?=some (.cells cs t fr)) (hu:P.underlying ty=some d) (hd:(match d with | .struct _ | .array _ _=>true|_=>false)=true) (hi:(P.info? ty).map (·.size)=some cs.size)
 (hR:R (.returned (.agg cs)) w):bodyPost P fn R .ret a w:=
 bodyPost_ret (results_cell_row h _ w g t cs fr d hp hg hu hd hi) h0 hR
theorem heap_alloc_at {w:World} {o:Obj} {n:Nat} (h:n=w.heap.size):(w.alloc o).heap[n]?=some o:=by subst h;exact heap_alloc_new w o
theorem Q5:(Tryz.prog.info? 233).map (·.size)=some 8:=by kernel_rfl
theorem ws_size (v:W8):(ws v).size=8:=rfl
theorem first_any (w:World):Calls Tryz.prog 167 #[] w fun e w'=>e=.returned (.agg (ws w0))∧Bw w w':=by
 go_enter Tryz.func167,Tryz.ntmps167
 go_wp2
 exact Z4 Tryz.results167 rfl rfl (heap_alloc_new w _) Tryz.underlying233 rfl Q5 ⟨rfl,(Mb _ _).alloc (Mr _) _⟩
theorem qxq (v u:W8) (w:World):Calls Tryz.prog 207 #[.agg (ws v),.agg (ws u)] w fun e w'=>e=.returned (.agg (ws (plus v u)))∧Bw w w':=by
 have hE:Hid (∀e:Ending,e=.returned (.agg #[.int .u32 (((v.a:Nat)+(u.a:Nat):Int)%4294967296),.int .u32 (((v.b:Nat)+(u.b:Nat):Int)%4294967296),.int .u32 (((v.c:Nat)+(u.c:Nat):Int)%4294967296),.int .u32 (((v.d:Nat)+(u.d:Nat):Int)%4294967296),.int .u32 (((v.e:Nat)+(u.e:Nat):Int)%4294967296),.int .u32 (((v.f:Nat)+(u.f:Nat):Int)%4294967296),.int .u32 (((v.g:Nat)+(u.g:Nat):Int)%4294967296),.int .u32 (((v.h:Nat)+(u.h:Nat):Int)%4294967296)])→e=.returned (.agg (ws (plus v u)))):=Hz (by
  intro e he
  rw [he]
  simp [ws,plus])
 generalize ws (plus v u)=z at *
 obtain⟨a,b,c,d,e,f,g,h⟩:=v
 obtain⟨a',b',c',d',e',f',g',h'⟩:=u
 unfold ws
 go_enter Tryz.func207,Tryz.ntmps207
 go_wp2
 exact Z4 Tryz.results207 rfl rfl (heap_alloc_at (by simp)) Tryz.underlying233 rfl Q5 ⟨hE.o _ rfl,(((Mb _ _).alloc (Mr _) _).alloc (by simp) _).alloc (by simp;omega) _⟩
theorem cells8 {w:World} {G:Nat} {t:TypeId} {a b c d e f g h:Value} (hg:w.heap[G]?=some (.cells #[a,b,c,d,e,f,g,h] t (0,0))) :
 w.cell? ⟨G,0,none⟩=some a∧w.cell? ⟨G,1,none⟩=some b∧w.cell? ⟨G,2,none⟩=some c∧w.cell? ⟨G,3,none⟩=some d∧w.cell? ⟨G,4,none⟩=some e∧w.cell? ⟨G,5,none⟩=some f∧w.cell? ⟨G,6,none⟩=some g∧w.cell? ⟨G,7,none⟩=some h:=by
 refine⟨?_,?_,?_,?_,?_,?_,?_,?_⟩ <;> (rw [cell_of_row w G _ _ _ _ hg];rfl)
theorem froz8 {w:World} {G:Nat} {t:TypeId} {cs:Array Value} (hg:w.heap[G]?=some (.cells cs t (0,0))) :
 w.frozen? ⟨G,0,none⟩=false∧w.frozen? ⟨G,1,none⟩=false∧w.frozen? ⟨G,2,none⟩=false∧w.frozen? ⟨G,3,none⟩=false∧w.frozen? ⟨G,4,none⟩=false∧w.frozen? ⟨G,5,none⟩=false∧w.frozen? ⟨G,6,none⟩=false∧w.frozen? ⟨G,7,none⟩=false:=by
 refine⟨?_,?_,?_,?_,?_,?_,?_,?_⟩ <;> exact frozen_of_row w G _ _ _ hg
theorem lt_some {w:World} {G:Nat} {o:Obj} (hg:w.heap[G]?=some o):G<w.heap.size:=by
 rcases Nat.lt_or_ge G w.heap.size with h|h
 ·exact h
 ·rw [Array.getElem?_eq_none h] at hg;cases hg
theorem alloc_old {w:World} {o o':Obj} {G:Nat} (h:w.heap[G]?=some o'):(w.alloc o).heap[G]?=some o':=(Below.heap_alloc w o G (lt_some h)).trans h
theorem Zq {w w':World} {G:Nat} {o:Obj} (hg:w.heap[G]?=some o) (hb:Bw w w'):w'.heap[G]?=some o:=by
 exact (hb.block G (lt_some hg)).trans hg
theorem setL {w:World} {G:Nat} {t:TypeId} {C:List Value} (hg:w.heap[G]?=some (.cells C.toArray t (0,0))) (k:Nat) (v:Value):(w.setCell ⟨G,k,none⟩ v).heap[G]?=some (.cells (C.set k v).toArray t (0,0)):=by
 rw [heap_setCell_same w G k _ _ _ hg,List.setIfInBounds_toArray]
theorem set8 {w:World} {G:Nat} {t:TypeId} {a b c d e f g h:Value} (hg:w.heap[G]?=some (.cells #[a,b,c,d,e,f,g,h] t (0,0))) (v0 v1 v2 v3 v4 v5 v6 v7:Value) :
 ((((((((w.setCell ⟨G,0,none⟩ v0).setCell ⟨G,1,none⟩ v1).setCell ⟨G,2,none⟩ v2).setCell ⟨G,3,none⟩ v3).setCell ⟨G,4,none⟩ v4).setCell ⟨G,5,none⟩ v5).setCell ⟨G,6,none⟩ v6).setCell ⟨G,7,none⟩ v7).heap[G]?=some (.cells #[v0,v1,v2,v3,v4,v5,v6,v7] t (0,0)):=by
 have h7:=setL (setL (setL (setL (setL (setL (setL (setL hg 0 v0) 1 v1) 2 v2) 3 v3) 4 v4) 5 v5) 6 v6) 7 v7
 simpa only [List.set_cons_zero,List.set_cons_succ] using h7
theorem below8 {w0 w:World} {B G:Nat} (hb:Below B w0 w) (hG:B≤G) (v0 v1 v2 v3 v4 v5 v6 v7:Value) :
 Below B w0 ((((((((w.setCell ⟨G,0,none⟩ v0).setCell ⟨G,1,none⟩ v1).setCell ⟨G,2,none⟩ v2).setCell ⟨G,3,none⟩ v3).setCell ⟨G,4,none⟩ v4).setCell ⟨G,5,none⟩ v5).setCell ⟨G,6,none⟩ v6).setCell ⟨G,7,none⟩ v7):=
 (((((((hb.setCell hG _).setCell hG _).setCell hG _).setCell hG _).setCell hG _).setCell hG _).setCell hG _).setCell hG _
theorem qzk (v:W8) (n:Nat) (w:World) (hv:v.ok) (hn:n<4294967296):Calls Tryz.prog 204 #[.agg (ws v),.int .u32 (n:Nat),.func (.func 205) #[] #[],.func (.func 206) #[] #[]] w fun e w'=>e=.returned (.agg (ws (rnd v n)))∧Bw w w':=by
 have hlo:=low_any v
 have hhi:=qxp v
 have hE:Hid (∀e:Ending,e=.returned (.agg #[.int .u32 (IntKind.u32.wrap (((n:Int)+(low v:Nat))%4294967296+(high v:Nat))),.int .u32 (v.a:Nat),.int .u32 (v.b:Nat),.int .u32 (v.c:Nat),.int .u32 (IntKind.u32.wrap ((v.d:Nat)+((n:Int)+(low v:Nat))%4294967296)),.int .u32 (v.e:Nat),.int .u32 (v.f:Nat),.int .u32 (v.g:Nat)])→e=.returned (.agg (ws (rnd v n)))):=Hz (by
  intro e he
  rw [he]
  have h1:IntKind.u32.wrap (((n:Int)+(low v:Nat))%4294967296+(high v:Nat))=(((n+low v+high v)%4294967296:Nat):Int):=by rw [IntKind.wrap_u32];omega
  have h2:IntKind.u32.wrap ((v.d:Nat)+((n:Int)+(low v:Nat))%4294967296)=(((v.d+(n+low v))%4294967296:Nat):Int):=by rw [IntKind.wrap_u32];omega
  rw [h1,h2]
  rfl)
 generalize ws (rnd v n)=z at *
 obtain⟨a,b,c,d,e,f,g,h⟩:=v
 have hv':=hv
 obtain⟨ha,hb,hc,hd,he,hf,hg,hh⟩:=hv
 simp only at ha hb hc hd he hf hg hh
 unfold ws at *
 go_enter Tryz.func204,Tryz.ntmps204
 go_wp2_with (go_at_call 205;refine (hlo _ hv').mono ?_;rintro e w1 ⟨rfl,hbl⟩)
 have B0:=Zq (G:=w.heap.size) (alloc_old (heap_alloc_new w _)) hbl
 have B1:=Zq (G:=w.heap.size+1) (heap_alloc_at (by simp)) hbl
 have hsz:w.heap.size+1<w1.heap.size:=lt_of_block B1
 obtain⟨c0,c1,c2,c3,c4,c5,c6,c7⟩:=cells8 B0
 have H1:=Hz B1
 clear B0 B1
 go_region_held3 (fun w'=>w'.cell? ⟨w.heap.size,0,none⟩=some (.int .u32 (a:Nat))∧w'.cell? ⟨w.heap.size,1,none⟩=some (.int .u32 (b:Nat))∧w'.cell? ⟨w.heap.size,2,none⟩=some (.int .u32 (c:Nat))∧w'.cell? ⟨w.heap.size,3,none⟩=some (.int .u32 (d:Nat))∧w'.cell? ⟨w.heap.size,4,none⟩=some (.int .u32 (e:Nat))∧w'.cell? ⟨w.heap.size,5,none⟩=some (.int .u32 (f:Nat))∧w'.cell? ⟨w.heap.size,6,none⟩=some (.int .u32 (g:Nat))∧w'.cell? ⟨w.heap.size,7,none⟩=some (.int .u32 (h:Nat)))
  (first
   | go_keep
   | (go_split_ands
      refine⟨?_,?_,?_,?_,?_,?_,?_,?_⟩ <;> (rw [hb2.cell (by simp;omega)];assumption)))
  ((go_at_call 206;refine (hhi _ hv').mono ?_;rintro e w2 ⟨rfl,hb2⟩;have B2:=Zq (w:=w1.drew) H1.o hb2;obtain⟨z0,z1,z2,z3,z4,z5,z6,z7⟩:=cells8 B2;obtain⟨f0,f1,f2,f3,f4,f5,f6,f7⟩:=froz8 B2;have H2:=Hz B2;clear B2))
 go_wp2
 have B2:=H2.o
 have hbw:Bw w w2:=(((((Mb _ _).alloc (Mr _) _).alloc (by simp) _).trans (hbl.mono (by simp;omega))).drew).trans (hb2.mono (by have:=hbl.size;simp at this;show w.heap.size≤w1.heap.size;omega))
 exact Z4 Tryz.results204 rfl rfl (set8 B2 _ _ _ _ _ _ _ _) Tryz.underlying233 rfl Q5 ⟨hE.o _ rfl,below8 hbw (by omega) _ _ _ _ _ _ _ _⟩
end ShaC
namespace ShaK
open Kit Byt ShaC
def u32n (xs:List Nat):List Value:=xs.map fun n:Nat=>Value.int .u32 (n:Int)
theorem qqg (xs:List Nat):(u32n xs).length=xs.length:=List.length_map ..
def Blk (w:World) (g:Nat) (t:TypeId) (xs:List Value):Prop:=w.heap[g]?=some (.cells xs.toArray t (0,0))
section
variable {w w':World} {g:Nat} {t:TypeId} {xs:List Value}
theorem Blk.cell (h:Blk w g t xs) {i:Nat} {v:Value} (hi:xs[i]?=some v):w.cell? ⟨g,i,none⟩=some v:=by
 rw [cell_of_row w g i _ _ _ h]
 simpa using hi
theorem Blk.byte {bs:List Nat} (h:Blk w g t (u8n bs)) {i:Nat} (hi:i<bs.length):w.cell? ⟨g,i,none⟩=some (.int .u8 (bs.getD i 0:Nat)):=
 h.cell (by simp [u8n,hi])
theorem Blk.word {bs:List Nat} (h:Blk w g t (u32n bs)) {i:Nat} (hi:i<bs.length):w.cell? ⟨g,i,none⟩=some (.int .u32 (bs.getD i 0:Nat)):=
 h.cell (by simp [u32n,hi])
theorem Blk.frozen (h:Blk w g t xs) (i:Nat):w.frozen? ⟨g,i,none⟩=false:=frozen_of_row w g i _ _ h
theorem Blk.set (h:Blk w g t xs) (i:Nat) (v:Value):Blk (w.setCell ⟨g,i,none⟩ v) g t (xs.set i v):=setL h i v
theorem Blk.below (h:Blk w g t xs) (hb:Bw w w'):Blk w' g t xs:=Zq h hb
theorem Blk.lt (h:Blk w g t xs):g<w.heap.size:=lt_some h
theorem Blk.alloc (h:Blk w g t xs) (o:Obj):Blk (w.alloc o) g t xs:=alloc_old h
theorem Blk.far (h:Blk w g t xs) {p:Addr} (hp:g≠p.block) (u:Value):Blk (w.setCell p u) g t xs:=(Below.heap_setCell w p u g hp).trans h
end
theorem qqh (xs:List Nat) (k y:Nat):(u32n xs).set k (.int .u32 (y:Int))=u32n (xs.set k y):=by simp [u32n,List.map_set]
theorem u32n_one (xs:List Nat):∀u ∈ u32n xs,u.oneCell'=true:=by
 intro u hu
 simp only [u32n,List.mem_map] at hu
 obtain⟨n,_,rfl⟩:=hu
 rfl
def Only (g:Nat) (w w':World):Prop:=w.grownBy w' (some g)∧w'.heap.size=w.heap.size
theorem Only.below {g B:Nat} {w0 w w':World} (h:Only g w w') (hb:Below B w0 w) (hg:B≤g) (hs:B≤w.heap.size):Below B w0 w':=hb.grown h.1 hs fun k hk=>by injection hk with hk;omega
theorem Only.blk {g k:Nat} {w w':World} {t:TypeId} {xs:List Value} (h:Only g w w') (hB:Blk w k t xs) (hne:k≠g):Blk w' k t xs:=
 (h.1.block k hB.lt (by simpa using hne)).trans hB
theorem Only.refl (g:Nat) (w:World):Only g w w:=⟨World.grownBy.refl w _,rfl⟩
theorem Only.row (w:World) (g:Nat) (cs:Array Value):Only g w (w.setRow g cs):=
 ⟨⟨rfl,rfl,rfl,by simp [World.setRow],fun i _ hne=>setRow_other w g i cs (by simpa using hne)⟩,by simp [World.setRow]⟩
theorem Only.of_drew {g:Nat} {w w':World} (h:Only g w.drew w'):Only g w w':=⟨⟨h.1.os,h.1.tape,h.1.output,h.1.size,h.1.block⟩,h.2⟩
theorem Only.trans {g:Nat} {a b c:World} (h:Only g a b) (k:Only g b c):Only g a c:=
 ⟨⟨k.1.os.trans h.1.os,k.1.tape.trans h.1.tape,k.1.output.trans h.1.output,Ml h.1.size k.1.size,fun i hi hne=>(k.1.block i (by rw [h.2];exact hi) hne).trans (h.1.block i hi hne)⟩,k.2.trans h.2⟩
theorem Only.set (w:World) (g i:Nat) (v:Value):Only g w (w.setCell ⟨g,i,none⟩ v):=
 ⟨⟨rfl,rfl,rfl,by simp [World.setCell],fun k _ hne=>Below.heap_setCell w _ v k (by simpa using hne)⟩,by simp [World.setCell]⟩
section
variable {P:Program} {ops:Array Oper} {rest:List Oper} {o:Oper} {a:Act} {w:World} {Q:Exit→Act→World→Prop}
theorem Qj (hgd:o.guard=none) (ty:TypeId) (x:Operand) (ho:o.op=.load ty x) (g:Nat) (hx:a.eval x=.pointer (some ⟨g,0,none⟩))
 {t:TypeId} {xs:List Value} {d:TypeDesc} (hB:Blk w g t xs) (hu:P.underlying ty=some d) (hd:(match d with | .struct _ | .array _ _=>true|_=>false)=true) (hi:(P.info? ty).map (·.size)=some xs.length)
 (h:wpList P ops Q rest (a.put o.dst (.agg xs.toArray)) w):wpList P ops Q (o :: rest) a w:=
 wpList_load_row hgd ty x ho g hx t xs.toArray (0,0) d hB hu hd (by simpa using hi) h
theorem Blk.range {g off:Nat} {t:TypeId} {xs cs:List Value} (hB:Blk w g t xs) (hc:(xs.drop off).take cs.length=cs):w.rangeAt g off cs:=fun j v hv=>by
 refine hB.cell ?_
 have hj:=(List.getElem?_eq_some_iff.1 hv).1
 rw [←hv,←hc,List.getElem?_take,if_pos hj,List.getElem?_drop]
theorem Qz (hgd:o.guard=none) (ty:TypeId) (x:Operand) (ho:o.op=.load ty x) (g off:Nat) (hx:a.eval x=.pointer (some ⟨g,off,none⟩))
 {t:TypeId} {xs:List Value} (cs:List Value) {d:TypeDesc} (hB:Blk w g t xs) (hc:(xs.drop off).take cs.length=cs) (hu:P.underlying ty=some d) (hd:d.isRow=true) (hi:(P.info? ty).map (·.size)=some cs.length)
 (h:wpList P ops Q rest (a.put o.dst (.agg cs.toArray)) w):wpList P ops Q (o :: rest) a w:=
 wpList_load_mid hgd ty x ho g off hx cs d (hB.range hc) hu hd hi h
theorem Jk (w:World) (ty:TypeId) (g off:Nat) {t:TypeId} {xs:List Value} (cs:List Value) (hB:Blk w g t xs) (hfit:off+cs.length≤xs.length) (hi:(P.info? ty).map (·.size)=some cs.length) (h1:∀v ∈ cs,v.oneCell'=true) :
 (storeVar ty ⟨g,off,none⟩ (.agg cs.toArray)).run P w=.ok () (w.setRow g (splice xs off cs).toArray):=by
 have hst:=run_storeCells_at P g off t cs 0 xs.toArray w hB (by simpa using hfit) h1
 cases hq:P.info? ty with
 | none=>simp [hq] at hi
 | some i=>
   have hs:i.size=cs.length:=by simpa [hq] using hi
   simp only [Nat.add_zero] at hst
   simp [storeVar,sizeOf,typeInfo,hq,Value.cells,hs,hst,splice]
theorem Qk (hgd:o.guard=none) (ty:TypeId) (x y:Operand) (ho:o.op=.store ty x y) (g off:Nat) (hx:a.eval x=.pointer (some ⟨g,off,none⟩))
 {t:TypeId} {xs:List Value} (cs:List Value) (hy:a.eval y=.agg cs.toArray) (hB:Blk w g t xs) (hfit:off+cs.length≤xs.length) (hi:(P.info? ty).map (·.size)=some cs.length) (h1:∀v ∈ cs,v.oneCell'=true)
 (h:∀w',Hid (Blk w' g t (splice xs off cs))→Hid (Only g w w')→wpList P ops Q rest (a.put o.dst undef) w'):wpList P ops Q (o :: rest) a w:=by
 refine wpList_plain hgd fun K hK=>?_
 unfold Oper.wp execOp
 simp only [ho,hx,hy,Instr.storeAt,Instr.sureAddr,Sem.run_bind,Sem.run_pure,Result.andThen_ok,Jk w ty g off cs hB hfit hi h1]
 exact hK _ _ (h _ (Hz (setRow_heap w g _ _ t _ hB)) (Hz (Only.row w g _)))
theorem Zk {K:Act→World→Prop} (ty:TypeId) (x y:Operand) (ho:o.op=.store ty x y) (g off:Nat) (hx:a.eval x=.pointer (some ⟨g,off,none⟩))
 {t:TypeId} {xs:List Value} (cs:List Value) (hy:a.eval y=.agg cs.toArray) (hB:Blk w g t xs) (hfit:off+cs.length≤xs.length) (hi:(P.info? ty).map (·.size)=some cs.length) (h1:∀v ∈ cs,v.oneCell'=true)
 (h:∀w',Hid (Blk w' g t (splice xs off cs))→Hid (Only g w w')→K (a.put o.dst undef) w'):o.wp P a w K Q:=by
 unfold Oper.wp execOp
 simp only [ho,hx,hy,Instr.storeAt,Instr.sureAddr,Sem.run_bind,Sem.run_pure,Result.andThen_ok,Jk w ty g off cs hB hfit hi h1]
 exact h _ (Hz (setRow_heap w g _ _ t _ hB)) (Hz (Only.row w g _))
theorem Zt {α:Type} {xs cs:List α} (h:xs.length=cs.length):splice xs 0 cs=cs:=by
 simp [splice,h▸List.drop_length]
theorem Qq (hgd:o.guard=none) (ty:TypeId) (x y:Operand) (ho:o.op=.store ty x y) (g:Nat) (hx:a.eval x=.pointer (some ⟨g,0,none⟩))
 {t:TypeId} {xs:List Value} (cs:List Value) (hy:a.eval y=.agg cs.toArray) (hB:Blk w g t xs) (hfit:xs.length=cs.length) (hi:(P.info? ty).map (·.size)=some cs.length) (h1:∀v ∈ cs,v.oneCell'=true)
 (h:∀w',Hid (Blk w' g t cs)→Hid (Only g w w')→wpList P ops Q rest (a.put o.dst undef) w'):wpList P ops Q (o :: rest) a w:=
 Qk hgd ty x y ho g 0 hx cs hy hB (by omega) hi h1 (by rw [Zt hfit];exact h)
theorem Jq {t e:TypeId} {n k:Nat} {xs:List Value} {v:Value} (ht:P.underlying t=some (.array n e)) (hd:∃d,P.underlying e=some (.int d)) (hi:(P.info? e).map (·.size)=some 1) (hk:k<n) (hv:xs[k]?=some v) (w:World) :
 (Instr.index t (.agg xs.toArray) (.int .i64 (k:Int))).run P w=.ok v w:=by
 obtain⟨d,hd⟩:=hd
 cases hq:P.info? e with
 | none=>simp [hq] at hi
 | some i=>
   have hs:i.size=1:=by simpa [hq] using hi
   simp [Instr.index,run_underlying ht,asIntOf,sizeOf,typeInfo,hq,hs,hk,part,isAgg,run_underlying hd,hv]
theorem Ql (hgd:o.guard=none) (d s:Operand) (dT sT:TypeId) (ho:o.op=.call { callee:=.builtin .copy,args:=#[d,s],argTypes:=#[dT,sT] }) (elem:TypeId) (hu:P.underlying dT=some (.slice elem)) (hsz:(P.info? elem).map (·.size)=some 1)
 (g off dLen dCap:Nat) (hd:a.eval d=.slice (some ⟨g,off,none⟩) dLen dCap) {A:Option Addr} {n c:Nat} {ys:List Value} (hs:a.eval s=.slice A n c) (hR:Rd w A n c ys) (h1:∀v ∈ ys,v.oneCell'=true)
 {t:TypeId} {xs:List Value} (hB:Blk w g t xs) (hfit:off+dLen≤xs.length)
 (h:∀w' m,Hid (m=min n dLen)→Hid (Blk w' g t (splice xs off (ys.take m)))→Hid (Only g w w')→wpList P ops Q rest (a.put o.dst (.int .i64 (m:Nat))) w'):wpList P ops Q (o :: rest) a w:=by
 have hl:=hR.len
 have hcl:(ys.take (min n dLen)).length=min n dLen:=by simp;omega
 by_cases h0:min n dLen=0
 ·refine wpList_copy_nothing hgd d s dT sT ho elem hu hsz (some ⟨g,off,none⟩) A dLen dCap n c hd hs h0 ?_
  exact h w 0 (Hz h0.symm) (Hz (by simpa [splice] using hB)) (Hz (Only.refl g w))
 ·obtain⟨b,oo,hA,_,hj⟩:=hR.2.2.2 (by omega)
  subst hA
  refine wpList_copy_own hgd d s dT sT ho elem hu hsz g off dLen dCap ⟨b,oo,none⟩ n c hd hs xs.toArray t hB (ys.take (min n dLen)) hcl (fun j v hv=>?_) (by rw [hcl];simp;omega) (fun v hv=>h1 v (List.mem_of_mem_take hv)) ?_
  ·rw [Addr.add_lit]
   rw [List.getElem?_take] at hv
   split at hv
   ·exact hj j v hv
   ·cases hv
  ·have h2:=h (w.setRow g (splice xs off (ys.take (min n dLen))).toArray) (min n dLen) (Hz rfl) (Hz (setRow_heap w g _ _ t _ hB)) (Hz (Only.row w g _))
   rw [hcl]
   simpa [splice,goInt,hcl] using h2
end
end ShaK
namespace ShaD
open Byt ShaM ShaA ShaC ShaK
theorem zero64 (w:World):(zeroValue 262).run Tryz.prog w=.ok (.agg (u32n (List.replicate 64 0)).toArray) w:=by kernel_rfl
def part (b:List Nat) (k:Nat):List Nat:=sch b k++List.replicate (64-k) 0
theorem Uj {b:List Nat} {k:Nat} (h:k≤64):(part b k).length=64:=by simp [part,V5];omega
theorem qqi {b:List Nat} {k:Nat} (h:k<64) (v:Nat) (hv:v=if k<16 then wd b k else nx (sch b k) k):(part b k).set k v=part b (k+1):=by
 subst hv
 have e:64-k=(64-(k+1))+1:=by omega
 unfold part
 rw [List.set_append,if_neg (by rw [V5];omega),V5,Nat.sub_self,e,List.replicate_succ,List.set_cons_zero,sch,List.append_assoc]
 rfl
theorem qxr {b:List Nat} {k j:Nat} (h:j<k):(part b k).getD j 0=(sch b k).getD j 0:=by
 unfold part
 rw [Mg,Mg,List.getElem?_append_left (by rw [V5];omega)]
theorem begin3 (w:World) (b:List Nat) {Z B:Array Value} (hZ:Z=(u32n (List.replicate 64 0)).toArray) (hB:B=(u8n b).toArray) :
 Blk (((w.alloc (.cells B 235)).alloc (.cells Z 262)).alloc (.cells Z 262)) w.heap.size 235 (u8n b)∧Blk (((w.alloc (.cells B 235)).alloc (.cells Z 262)).alloc (.cells Z 262)) (w.heap.size+1) 262 (u32n (List.replicate 64 0))∧Blk (((w.alloc (.cells B 235)).alloc (.cells Z 262)).alloc (.cells Z 262)) (w.heap.size+1+1) 262 (u32n (part b 0))∧Bw w (((w.alloc (.cells B 235)).alloc (.cells Z 262)).alloc (.cells Z 262)):=by
 subst hZ hB
 exact⟨alloc_old (alloc_old (heap_alloc_new w _)),alloc_old (heap_alloc_at (by simp)),heap_alloc_at (by simp),(((Mb _ _).alloc (Mr _) _).alloc (by simp) _).alloc (by simp;omega) _⟩
theorem qxs (b:List Nat):part b 64=sch b 64:=by simp [part]
theorem qxt:(Tryz.prog.info? 262).map (·.size)=some 64:=by kernel_rfl
theorem size_sch (b:List Nat):(Tryz.prog.info? 262).map (·.size)=some (u32n (sch b 64)).length:=by rw [qqg,V5];exact qxt
theorem word_or {x0 x1 x2 x3:Nat} (h0:x0<256) (h1:x1<256) (h2:x2<256) (h3:x3<256) :
 bits .or .u32 (bits .or .u32 (bits .or .u32 (IntKind.u32.wrap (IntKind.u32.wrap (x0:Int)*16777216)) (IntKind.u32.wrap (IntKind.u32.wrap (x1:Int)*65536))) (IntKind.u32.wrap (IntKind.u32.wrap (x2:Int)*256))) (IntKind.u32.wrap (x3:Int))=((x0*16777216+x1*65536+x2*256+x3:Nat):Int):=by
 have e0:IntKind.u32.wrap (IntKind.u32.wrap (x0:Int)*16777216)=((2 ^ 24*x0:Nat):Int):=by simp only [IntKind.wrap_u32];omega
 have e1:IntKind.u32.wrap (IntKind.u32.wrap (x1:Int)*65536)=((2 ^ 16*x1:Nat):Int):=by simp only [IntKind.wrap_u32];omega
 have e2:IntKind.u32.wrap (IntKind.u32.wrap (x2:Int)*256)=((2 ^ 8*x2:Nat):Int):=by simp only [IntKind.wrap_u32];omega
 have e3:IntKind.u32.wrap (x3:Int)=((x3:Nat):Int):=by simp only [IntKind.wrap_u32];omega
 have o1:2 ^ 24*x0 ||| 2 ^ 16*x1=2 ^ 16*(256*x0+x1):=by
  rw [←Nat.two_pow_add_eq_or_of_lt (i:=24) (by omega)];omega
 have o2:2 ^ 16*(256*x0+x1) ||| 2 ^ 8*x2=2 ^ 8*(65536*x0+256*x1+x2):=by
  rw [←Nat.two_pow_add_eq_or_of_lt (i:=16) (by omega)];omega
 have o3:2 ^ 8*(65536*x0+256*x1+x2) ||| x3=x0*16777216+x1*65536+x2*256+x3:=by
  rw [←Nat.two_pow_add_eq_or_of_lt (i:=8) (by omega)];omega
 rw [e0,e1,e2,e3,or32 (by omega) (by omega),o1,or32 (by omega) (by omega),o2,or32 (by omega) (by omega),o3]
theorem nx_eq {x0 x1 x2 x3:Nat} (h0:x0<4294967296) (h1:x1<4294967296) (h2:x2<4294967296) (h3:x3<4294967296) :
 IntKind.u32.wrap (IntKind.u32.wrap (IntKind.u32.wrap ((x0:Int)+(x1:Int))+bits .xor .u32 (bits .xor .u32 ((rt x2 7:Nat):Int) ((rt x2 18:Nat):Int)) ((x2:Int)/8))+bits .xor .u32 (bits .xor .u32 ((rt x3 17:Nat):Int) ((rt x3 19:Nat):Int)) ((x3:Int)/1024))=(((x0+x1+s0 x2+s1 x3)%4294967296:Nat):Int):=by
 have e2:((x2:Int)/8)=((x2/8:Nat):Int):=by omega
 have e3:((x3:Int)/1024)=((x3/1024:Nat):Int):=by omega
 rw [e2,e3,xor32 (rt_lt h2 (by decide)) (rt_lt h2 (by decide)),xor32 (rt_lt h3 (by decide)) (rt_lt h3 (by decide)),xor32 (xor_lt (rt_lt h2 (by decide)) (rt_lt h2 (by decide))) (by omega),xor32 (xor_lt (rt_lt h3 (by decide)) (rt_lt h3 (by decide))) (by omega)]
 unfold s0 s1
 simp only [IntKind.wrap_u32]
 omega
def Kept (w:World) (b:List Nat) (k:Nat) (wr:World):Prop:=
 Blk wr w.heap.size 235 (u8n b)∧Blk wr (w.heap.size+1) 262 (u32n (List.replicate 64 0))∧Blk wr (w.heap.size+1+1) 262 (u32n (part b k))∧Bw w wr
theorem U7 {b:List Nat} (h:by256 b) (k j:Nat):(sch b k).getD j 0<4294967296:=by
 rw [Mg]
 by_cases hk:j<(sch b k).length
 ·rw [Mq hk]
  exact sch_lt h k _ (Me_ hk)
 ·rw [List.getElem?_eq_none (by omega)]
  decide
theorem qq7 (b:List Nat) (w:World) (hl:b.length=64) (hb:by256 b):Calls Tryz.prog 203 #[.agg (u8n b).toArray] w fun e w'=>e=.returned (.agg (u32n (sch b 64)).toArray)∧Bw w w':=by
 have hz:=zero64
 obtain⟨Z,hZ⟩:∃Z:Array Value,Z=(u32n (List.replicate 64 0)).toArray:=⟨_,rfl⟩
 obtain⟨B,hB⟩:∃B:Array Value,B=(u8n b).toArray:=⟨_,rfl⟩
 rw [←hB]
 simp only [←hZ] at hz
 have H0:Hid (Kept w b 0 _):=Hz (begin3 w b hZ hB)
 clear hZ hB
 go_enter Tryz.func203,Tryz.ntmps203
 go_wp2
 clear hz
 go_loopw [8,4] (fun i _ wr=>∃k:Nat,k≤16∧i=.int .i64 k∧Hid (Kept w b k wr)) (fun i _ _=>16-(intOf i).toNat)
 case atStart=>exact⟨0,by omega,rfl,H0⟩
 case round=>
  obtain⟨k,hk,rfl,hT⟩:=hrel
  clear H0
  by_cases hlt:k<16
  ·obtain⟨B0,B1,B2,hbel⟩:=hT.o
   have c0:=B0.byte (i:=4*k) (by omega)
   have c1:=B0.byte (i:=4*k+1) (by omega)
   have c2:=B0.byte (i:=4*k+2) (by omega)
   have c3:=B0.byte (i:=4*k+3) (by omega)
   have c4:=B2.word (i:=k) (by rw [Uj (by omega)];omega)
   have f4:=B2.frozen k
   have h0:=Zw hb (4*k)
   have h1:=Zw hb (4*k+1)
   have h2:=Zw hb (4*k+2)
   have h3:=Zw hb (4*k+3)
   have hS:Hid (Kept w b (k+1) (wr.drew.setCell ⟨w.heap.size+1+1,k,none⟩ (.int .u32 (wd b k:Nat)))):=Hz (by
    refine⟨Blk.far (w:=wr.drew) B0 (by simp;omega) _,Blk.far (w:=wr.drew) B1 (by simp) _,?_,hbel.drew.setCell (by simp;omega) _⟩
    have h5:=Blk.set (w:=wr.drew) B2 k (.int .u32 (wd b k:Nat))
    rw [qqh,qqi (by omega) _ (by rw [if_pos hlt])] at h5
    exact h5)
   have hwo:=Hz (word_or h0 h1 h2 h3)
   have hwd:Hid (b.getD (4*k) 0*16777216+b.getD (4*k+1) 0*65536+b.getD (4*k+2) 0*256+b.getD (4*k+3) 0=wd b k):=Hz rfl
   clear B0 B1 B2 hbel
   generalize b.getD (4*k) 0=x0 at *
   generalize b.getD (4*k+1) 0=x1 at *
   generalize b.getD (4*k+2) 0=x2 at *
   generalize b.getD (4*k+3) 0=x3 at *
   go_wp2
   have w0:IntKind.i64.wrap (4*(k:Int))=4*(k:Int):=by rw [Mi_];omega
   have w1:IntKind.i64.wrap (4*(k:Int)+1)=4*(k:Int)+1:=by rw [Mi_];omega
   have w2:IntKind.i64.wrap (4*(k:Int)+2)=4*(k:Int)+2:=by rw [Mi_];omega
   have w3:IntKind.i64.wrap (4*(k:Int)+3)=4*(k:Int)+3:=by rw [Mi_];omega
   have t0:(4*(k:Int)).toNat=4*k:=by omega
   have t1:(4*(k:Int)+1).toNat=4*k+1:=by omega
   have t2:(4*(k:Int)+2).toNat=4*k+2:=by omega
   have t3:(4*(k:Int)+3).toNat=4*k+3:=by omega
   have p0:(0:Int)≤4*(k:Int):=by omega
   have p1:(0:Int)≤4*(k:Int)+1:=by omega
   have p2:(0:Int)≤4*(k:Int)+2:=by omega
   have p3:(0:Int)≤4*(k:Int)+3:=by omega
   have q0:4*(k:Int)<64:=by omega
   have q1:4*(k:Int)+1<64:=by omega
   have q2:4*(k:Int)+2<64:=by omega
   have q3:4*(k:Int)+3<64:=by omega
   have r0:(0:Int)≤(k:Int):=by omega
   have r1:(k:Int)<64:=by omega
   go_still_tail 31,(by kernel_rfl)
   clear w0 w1 w2 w3 t0 t1 t2 t3 p0 p1 p2 p3 q0 q1 q2 q3 r0 r1
   change wpList _ _ _ _ _ wr.drew
   rw [hwo.o,hwd.o]
   clear hwo hwd c0 c1 c2 c3
   generalize wd b k=y at *
   go_wp2
   go_roundw
   case rel=>exact⟨k+1,by omega,by go_num,hS⟩
   case measure=>simp [intOf];omega
  ·obtain rfl:k=16:=by omega
   go_wp2
   rw [show ((16:Nat):Int)=16 from rfl]
   go_loopw [5,6,7] (fun i _ _ wr=>∃k:Nat,16≤k∧k≤64∧i=.int .i64 k∧Hid (Kept w b k wr)) (fun i _ _ _=>64-(intOf i).toNat)
   case atStart=>exact⟨16,by omega,by omega,rfl,hT⟩
   case round=>
    obtain⟨k,hk16,hk,rfl,hT⟩:=hrel
    by_cases hlt:k<64
    ·obtain⟨B0,B1,B2,hbel⟩:=hT.o
     have c0:=B2.word (i:=k-16) (by rw [Uj (by omega)];omega)
     have c1:=B2.word (i:=k-7) (by rw [Uj (by omega)];omega)
     have c2:=B2.word (i:=k-15) (by rw [Uj (by omega)];omega)
     have c3:=B2.word (i:=k-2) (by rw [Uj (by omega)];omega)
     have c4:=B2.word (i:=k) (by rw [Uj (by omega)];omega)
     have f4:=B2.frozen k
     rw [qxr (by omega)] at c0 c1 c2 c3
     have hwd:Hid (nx (sch b k) k=((sch b k).getD (k-16) 0+(sch b k).getD (k-7) 0+s0 ((sch b k).getD (k-15) 0)+s1 ((sch b k).getD (k-2) 0))%4294967296):=Hz rfl
     have h0:=U7 hb k (k-16)
     have h1:=U7 hb k (k-7)
     have h2:=U7 hb k (k-15)
     have h3:=U7 hb k (k-2)
     clear B0 B1 B2 hbel
     generalize (sch b k).getD (k-16) 0=x0 at *
     generalize (sch b k).getD (k-7) 0=x1 at *
     generalize (sch b k).getD (k-15) 0=x2 at *
     generalize (sch b k).getD (k-2) 0=x3 at *
     go_wp2
     have w0:IntKind.i64.wrap ((k:Int)-16)=(k:Int)-16:=by rw [Mi_];omega
     have w1:IntKind.i64.wrap ((k:Int)-7)=(k:Int)-7:=by rw [Mi_];omega
     have w2:IntKind.i64.wrap ((k:Int)-15)=(k:Int)-15:=by rw [Mi_];omega
     have w3:IntKind.i64.wrap ((k:Int)-2)=(k:Int)-2:=by rw [Mi_];omega
     have t0:((k:Int)-16).toNat=k-16:=by omega
     have t1:((k:Int)-7).toNat=k-7:=by omega
     have t2:((k:Int)-15).toNat=k-15:=by omega
     have t3:((k:Int)-2).toNat=k-2:=by omega
     have p0:(0:Int)≤(k:Int)-16:=by omega
     have p1:(0:Int)≤(k:Int)-7:=by omega
     have p2:(0:Int)≤(k:Int)-15:=by omega
     have p3:(0:Int)≤(k:Int)-2:=by omega
     have q0:(k:Int)-16<64:=by omega
     have q1:(k:Int)-7<64:=by omega
     have q2:(k:Int)-15<64:=by omega
     have q3:(k:Int)-2<64:=by omega
     have r0:(0:Int)≤(k:Int):=by omega
     have r1:(k:Int)<64:=by omega
     have m0:(16:Int)≤(k:Int):=by omega
     have m1:(7:Int)≤(k:Int):=by omega
     have m2:(15:Int)≤(k:Int):=by omega
     have m3:(2:Int)≤(k:Int):=by omega
     go_quiet (fail)
     have hT2:Hid (Kept w b k (wr.drewN nq)):=Hz ⟨hT.o.1,hT.o.2.1,hT.o.2.2.1,below_drewN hT.o.2.2.2 nq⟩
     replace c0:(wr.drewN nq).cell? _=_:=c0
     replace c1:(wr.drewN nq).cell? _=_:=c1
     replace c2:(wr.drewN nq).cell? _=_:=c2
     replace c3:(wr.drewN nq).cell? _=_:=c3
     replace c4:(wr.drewN nq).cell? _=_:=c4
     replace f4:(wr.drewN nq).frozen? _=_:=f4
     clear hT
     generalize wr.drewN nq=wq at *
     go_wp2
     go_still_tail 29,(by kernel_rfl)
     refine wpStill_step (fun K hK=>?_)
     go_simp
     refine⟨_,(rot7 x2 _ h2).mono (fun e w' h=>⟨h.1,h.2.symm⟩),hK _ ?_⟩
     clear hK K
     repeat still_step
     refine wpStill_step (fun K hK=>?_)
     go_simp
     refine⟨_,(rot18 x2 _ h2).mono (fun e w' h=>⟨h.1,h.2.symm⟩),hK _ ?_⟩
     clear hK K
     repeat still_step
     refine wpStill_step (fun K hK=>?_)
     go_simp
     refine⟨_,(rot17 x3 _ h3).mono (fun e w' h=>⟨h.1,h.2.symm⟩),hK _ ?_⟩
     clear hK K
     repeat still_step
     refine wpStill_step (fun K hK=>?_)
     go_simp
     refine⟨_,(rot19 x3 _ h3).mono (fun e w' h=>⟨h.1,h.2.symm⟩),hK _ ?_⟩
     clear hK K
     repeat still_step
     refine wpStill_nil ?_
     clear w0 w1 w2 w3 t0 t1 t2 t3 p0 p1 p2 p3 q0 q1 q2 q3 r0 r1 m0 m1 m2 m3
     change wpList _ _ _ _ _ wq.drew
     rw [nx_eq h0 h1 h2 h3,←hwd.o]
     have hS:Hid (Kept w b (k+1) (wq.drew.setCell ⟨w.heap.size+1+1,k,none⟩ (.int .u32 (nx (sch b k) k:Nat)))):=Hz (by
      obtain⟨B0,B1,B2,hbel⟩:=hT2.o
      refine⟨Blk.far (w:=wq.drew) B0 (by simp;omega) _,Blk.far (w:=wq.drew) B1 (by simp) _,?_,hbel.drew.setCell (by simp;omega) _⟩
      have h5:=Blk.set (w:=wq.drew) B2 k (.int .u32 (nx (sch b k) k:Nat))
      rw [qqh,qqi (by omega) _ (by rw [if_neg (by omega)])] at h5
      exact h5)
     clear c0 c1 c2 c3 hT2 hwd
     generalize nx (sch b k) k=y at *
     go_wp2
     go_roundw
     case rel=>exact⟨k+1,by omega,by omega,by go_num,hS⟩
     case measure=>simp [intOf];omega
    ·obtain rfl:k=64:=by omega
     obtain⟨_,B1',B2',hbel⟩:=hT.o
     rw [qxs] at B2'
     have B1:=Hz B1'
     have B2:=Hz B2'
     have hi:=Hz (size_sch b)
     clear B1' B2' hT
     go_wp2_with (first
      | (refine Qj rfl 262 _ rfl (w.heap.size+1+1) rfl B2.o Tryz.underlying262 rfl hi.o ?_)
      | (refine Qq rfl 262 (.tmp 2) (.tmp 84) rfl (w.heap.size+1) rfl (u32n (sch b 64)) rfl B1.o (by simp [qqg,V5]) hi.o (u32n_one _) ?_;intro w3 hB3 ho3))
     exact Z4 Tryz.results203 rfl rfl hB3.o Tryz.underlying262 rfl (by simpa using hi.o) ⟨rfl,ho3.o.below hbel (by omega) hbel.size⟩
end ShaD
namespace ShaE
open Byt ShaM ShaB ShaC ShaK ShaD
def Tab (w:World):Prop:=0<w.heap.size∧∀i,i<64→w.cell? ⟨0,i,none⟩=some (.int .u32 (KT.getD i 0:Nat))
theorem Tab.below {B:Nat} {w w':World} (h:Tab w) (hb:Below B w w') (hB:0<B):Tab w':=
 ⟨by have:=h.1;have:=hb.size;omega,fun i hi=>(hb.cell (p:=⟨0,i,none⟩) hB).trans (h.2 i hi)⟩
def wl (v:W8):List Value:=u32n v.list
theorem wl_ws (v:W8):(wl v).toArray=ws v:=rfl
theorem Jv (v:W8):(wl v).length=8:=rfl
theorem KT_at (k:Nat):KT.getD k 0<4294967296:=by
 rw [Mg]
 by_cases hk:k<KT.length
 ·rw [Mq hk]
  exact KT_lt hk
 ·rw [List.getElem?_eq_none (by omega)]
  decide
theorem Gj:(Tryz.prog.info? 227).map (·.size)=some 1:=by kernel_rfl
def Kept2 (w:World) (v:W8) (s:List Nat) (k:Nat) (wr:World):Prop:=
 Blk wr w.heap.size 233 (wl v)∧Blk wr (w.heap.size+1+1) 233 (wl ⟨0,0,0,0,0,0,0,0⟩)∧Blk wr (w.heap.size+1+1+1) 233 (wl (rds v s k))∧Bw w wr
theorem Kq:(Tryz.prog.info? 235).map (·.size)=some 64:=by kernel_rfl
theorem Blk_at {w:World} {n:Nat} {t:TypeId} {B:Array Value} {xs:List Value} (hB:B=xs.toArray) (h:n=w.heap.size):Blk (w.alloc (.cells B t)) n t xs:=by
 subst hB
 exact heap_alloc_at h
theorem begin4 {w w1:World} {v:W8} {s:List Nat} {B:Array Value} (hb:Below ((((w.alloc (.cells (ws v) 233)).alloc (.cells B 235)).alloc (.cells (ws ⟨0,0,0,0,0,0,0,0⟩) 233)).alloc (.cells (ws v) 233)).heap.size
 ((((w.alloc (.cells (ws v) 233)).alloc (.cells B 235)).alloc (.cells (ws ⟨0,0,0,0,0,0,0,0⟩) 233)).alloc (.cells (ws v) 233)) w1):Kept2 w v s 0 w1:=by
 refine⟨Blk.below ?_ hb,Blk.below ?_ hb,Blk.below ?_ hb,(((((Mb _ _).alloc (Mr _) _).alloc (by simp) _).alloc (by simp;omega) _).alloc (by simp;omega) _).trans (hb.mono (by simp;omega))⟩
 ·exact alloc_old (alloc_old (alloc_old (heap_alloc_new w _)))
 ·exact alloc_old (heap_alloc_at (by simp))
 ·exact heap_alloc_at (by simp)
theorem rnd_mod (v:W8) (n:Nat):rnd v (n%4294967296)=rnd v n:=by
 have h1:(n%4294967296+low v+high v)%4294967296=(n+low v+high v)%4294967296:=by omega
 have h2:(v.d+(n%4294967296+low v))%4294967296=(v.d+(n+low v))%4294967296:=by omega
 unfold rnd
 rw [h1,h2]
theorem Yt (v:W8) (b:List Nat) (w:World) (hT:Tab w) (hv:v.ok) (hl:b.length=64) (hb:by256 b):Calls Tryz.prog 188 #[.agg (ws v),.agg (u8n b).toArray] w fun e w'=>e=.returned (.agg (ws (blk v b)))∧Bw w w':=by
 obtain⟨B,hB⟩:∃B:Array Value,B=(u8n b).toArray:=⟨_,rfl⟩
 obtain⟨S,hS⟩:∃S:List Nat,S=sch b 64:=⟨_,rfl⟩
 obtain⟨X,hX⟩:∃X:Array Value,X=(u32n S).toArray:=⟨_,rfl⟩
 have HT:=Hz hT
 have HB:=Hz hB
 have HX:=Hz hX
 have hsp:=fun w=>qq7 b w hl hb
 rw [←hS,←hX] at hsp
 rw [←hB]
 have hsl:=V5 b 64
 have hst:=U7 hb 64
 have hi:=Hz (show (Tryz.prog.info? 235).map (·.size)=some (u8n b).length by rw [Qv,hl];exact Kq)
 obtain⟨Z,hZ⟩:∃Z:Array Value,Z=ws (blk v b):=⟨_,rfl⟩
 rw [←hZ]
 have hz:Hid (Z=(wl (plus v (rds v S 64))).toArray):=Hz (by rw [hZ,hS,blk,wl_ws])
 rw [←hS] at hsl hst
 clear hB hT hX hS hZ
 have hv':=hv
 obtain⟨a,b',c,d,e,f,g,h⟩:=v
 unfold ws
 go_enter Tryz.func188,Tryz.ntmps188
 go_wp2_with (first
  | (refine Qj rfl 235 _ rfl (w.heap.size+1) rfl (alloc_old (alloc_old (Blk_at HB.o (by simp)))) Tryz.underlying235 rfl hi.o ?_)
  | (go_at_call 203;refine (hsp _).mono ?_;rintro e1 w1 ⟨rfl,hb1⟩))
 have hK:Hid (Kept2 w ⟨a,b',c,d,e,f,g,h⟩ S 0 w1):=Hz (begin4 hb1)
 clear hsp hi HB
 go_loopw [11,6,7] (fun i _ _ wr=>∃k:Nat,k≤64∧i=.int .i64 k∧Hid (Kept2 w ⟨a,b',c,d,e,f,g,h⟩ S k wr)) (fun i _ _ _=>64-(intOf i).toNat)
 case atStart=>exact⟨0,by omega,rfl,hK⟩
 case round=>
  obtain⟨k,hk,rfl,hT⟩:=hrel
  clear hK
  by_cases hlt:k<64
  ·obtain⟨B0,B2,B3,hbel⟩:=hT.o
   have hcell:=(HT.o.below hbel HT.o.1).2 k hlt
   have hsn:Hid (rds ⟨a,b',c,d,e,f,g,h⟩ S (k+1)=rnd (rds ⟨a,b',c,d,e,f,g,h⟩ S k) ((KT.getD k 0+S.getD k 0)%4294967296)):=Hz (by rw [rnd_mod,rds])
   have hu:=qzj hv' S k
   have hix:=Jq (P:=Tryz.prog) (k:=k) (xs:=u32n S) (v:=.int .u32 (S.getD k 0:Nat)) Tryz.underlying262 ⟨_,Tryz.underlying227⟩ Gj hlt (by simp [u32n,hsl,hlt])
   rw [←HX.o] at hix
   have hx:=KT_at k
   have hy:=hst k
   generalize rds ⟨a,b',c,d,e,f,g,h⟩ S k=u at *
   generalize KT.getD k 0=x at *
   generalize S.getD k 0=y at *
   obtain⟨z,hz'⟩:∃z,z=(x+y)%4294967296:=⟨_,rfl⟩
   rw [←hz'] at hsn
   have hw:IntKind.u32.wrap ((x:Int)+(y:Int))=(z:Int):=by rw [IntKind.wrap_u32];omega
   have hw2:((x:Int)+(y:Int))%4294967296=(z:Int):=by omega
   have hzl:z<4294967296:=by omega
   obtain⟨Y,hY⟩:∃Y:Array Value,Y=(wl (rnd u z)).toArray:=⟨_,rfl⟩
   have hr:=fun w=>qzk u z w hu hzl
   rw [←wl_ws (rnd u z),←hY] at hr
   have HY:=Hz hY
   have HB3:=Hz B3
   have hK2:=Hz (And.intro B0 (And.intro B2 hbel))
   obtain⟨c0,c1,c2,c3,c4,c5,c6,c7⟩:=cells8 (show wr.heap[w.heap.size+1+1+1]?=some (.cells #[.int .u32 (u.a:Nat),.int .u32 (u.b:Nat),.int .u32 (u.c:Nat),.int .u32 (u.d:Nat),.int .u32 (u.e:Nat),.int .u32 (u.f:Nat),.int .u32 (u.g:Nat),.int .u32 (u.h:Nat)] 233 (0,0)) from B3)
   unfold ws at hr
   clear hY hz' B0 B2 B3 hbel hT hst
   have r0:(0:Int)≤(k:Int):=by omega
   have r1:(k:Int)<64:=by omega
   have hn:(k:Int).toNat=k:=by omega
   go_wp2
   go_still_tail 6,(by kernel_rfl)
   change wpList _ _ _ _ _ wr.drew
   clear c0 c1 c2 c3 c4 c5 c6 c7 hcell hix
   go_wp2_with (first
    | (go_at_call 204;refine (hr _).mono ?_;rintro e1 w2 ⟨rfl,hb2⟩)
    | (refine Qq rfl 233 (.tmp 5) (.tmp 21) rfl (w.heap.size+1+1+1) rfl (wl (rnd u z)) (congrArg Value.agg HY.o) (Blk.below (w:=wr.drew) HB3.o hb2) (by rw [Jv,Jv]) (by rw [Jv];exact Q5) (u32n_one _) ?_;intro w3 hB3 ho3))
   have hT3:Hid (Kept2 w ⟨a,b',c,d,e,f,g,h⟩ S (k+1) w3):=Hz (by
    obtain⟨B0,B2,hbel⟩:=hK2.o
    have hb2':Bw wr w2:=((Mb wr.heap.size wr).drew).trans hb2
    refine⟨ho3.o.blk (B0.below hb2') (by omega),ho3.o.blk (B2.below hb2') (by omega),?_,ho3.o.below (hbel.trans (hb2'.mono hbel.size)) (by omega) (by have:=hb2'.size;have:=hbel.size;omega)⟩
    rw [hsn.o]
    exact hB3.o)
   clear hB3 ho3 hb2 hK2 HB3 HY hr
   go_roundw
   case rel=>exact⟨k+1,by omega,by go_num,hT3⟩
   case measure=>simp [intOf];omega
  ·obtain rfl:k=64:=by omega
   obtain⟨B0',B2',B3',hbel⟩:=hT.o
   have B0:=Hz B0'
   have B2:=Hz B2'
   have B3:=Hz B3'
   have hsz:=hbel.size
   clear B0' B2' B3' hT
   generalize rds ⟨a,b',c,d,e,f,g,h⟩ S 64=u at *
   have hpl:=qxq ⟨a,b',c,d,e,f,g,h⟩ u
   rw [←wl_ws,←wl_ws,←wl_ws,←hz.o] at hpl
   go_wp2_with (first
    | (refine Qj rfl 233 (.tmp 2) rfl w.heap.size rfl B0.o Tryz.underlying233 rfl (by rw [Jv];exact Q5) ?_)
    | (refine Qj rfl 233 (.tmp 5) rfl (w.heap.size+1+1+1) rfl B3.o Tryz.underlying233 rfl (by rw [Jv];exact Q5) ?_)
    | (go_at_call 207;refine (hpl _).mono ?_;rintro e1 w2 ⟨rfl,hb2⟩)
    | (refine Qq rfl 233 (.tmp 4) (.tmp 25) rfl (w.heap.size+1+1) rfl (wl (plus ⟨a,b',c,d,e,f,g,h⟩ u)) (congrArg Value.agg hz.o) (Blk.below B2.o hb2) (by rw [Jv,Jv]) (by rw [Jv];exact Q5) (u32n_one _) ?_;intro w3 hB3 ho3))
   refine Z4 Tryz.results188 rfl rfl hB3.o Tryz.underlying233 rfl (by rw [wl_ws,ws_size];exact Q5) ⟨by rw [hz.o],ho3.o.below (hbel.trans (hb2.mono hbel.size)) (by omega) (by have:=hb2.size;omega)⟩
end ShaE
namespace ShaF
open Byt ShaM ShaB ShaC ShaK ShaD ShaE
theorem zero32 (w:World):(zeroValue 239).run Tryz.prog w=.ok (.agg (u8n (List.replicate 32 0)).toArray) w:=by kernel_rfl
theorem Gz:(Tryz.prog.info? 239).map (·.size)=some 32:=by kernel_rfl
theorem Gj:(Tryz.prog.info? 227).map (·.size)=some 1:=by kernel_rfl
theorem Jh (xs:List Nat) (k y:Nat):(u8n xs).set k (.int .u8 (y:Int))=u8n (xs.set k y):=by simp [u8n,List.map_set]
def out (v:W8) (k:Nat):List Nat:=(v.list.take k).flatMap by4++List.replicate (32-4*k) 0
theorem flat4 (l:List Nat):(l.flatMap by4).length=4*l.length:=by
 induction l with
 | nil=>rfl
 | cons a l ih=>
   rw [List.flatMap_cons,Ma,ih,List.length_cons]
   show 4+4*l.length=4*(l.length+1)
   omega
theorem out_len {v:W8} {k:Nat} (h:k≤8):(out v k).length=32:=by
 have:(v.list.take k).length=k:=by simp [W8.list];omega
 rw [out,Ma,flat4,this,List.length_replicate];omega
theorem set4 (p:List Nat) (n y0 y1 y2 y3:Nat):((((p++List.replicate (n+4) 0).set p.length y0).set (p.length+1) y1).set (p.length+2) y2).set (p.length+3) y3=p++[y0,y1,y2,y3]++List.replicate n 0:=by
 have e:List.replicate (n+4) (0:Nat)=0 :: 0 :: 0 :: 0 :: List.replicate n 0:=by simp [List.replicate_succ]
 rw [e]
 simp [List.set_append]
theorem out_set {v:W8} {k:Nat} (h:k<8) {y0 y1 y2 y3:Nat} (hy:[y0,y1,y2,y3]=by4 (v.list.getD k 0)):((((out v k).set (4*k) y0).set (4*k+1) y1).set (4*k+2) y2).set (4*k+3) y3=out v (k+1):=by
 have hl:v.list.length=8:=rfl
 have h1:((v.list.take k).flatMap by4).length=4*k:=by rw [flat4];simp [hl];omega
 have e:32-4*k=(32-4*(k+1))+4:=by omega
 have h2:v.list.take (k+1)=v.list.take k++[v.list.getD k 0]:=by
  rw [List.take_succ_eq_append_getElem (by omega),Mg,Mq (by omega)]
  rfl
 unfold out
 rw [e,←h1,set4,h2,List.flatMap_append,hy]
 simp
theorem out_set4 (v:W8) {k:Nat} (h:k<8):((((out v k).set (4*k) (v.list.getD k 0/16777216%256)).set (4*k+1) (v.list.getD k 0/65536%256)).set (4*k+2) (v.list.getD k 0/256%256)).set (4*k+3) (v.list.getD k 0%256)=out v (k+1):=out_set h rfl
theorem out_all (v:W8):out v 8=bys v:=by simp [out,bys,W8.list]
def Kept3 (w:World) (v:W8) (k:Nat) (wr:World):Prop:=
 Blk wr (w.heap.size+1) 239 (u8n (List.replicate 32 0))∧Blk wr (w.heap.size+1+1) 239 (u8n (out v k))∧Bw w wr
theorem begin3 (w:World) (v:W8) {Z:Array Value} (hZ:Z=(u8n (List.replicate 32 0)).toArray) :
 Kept3 w v 0 (((w.alloc (.cells (ws v) 233)).alloc (.cells Z 239)).alloc (.cells Z 239)):=by
 subst hZ
 exact⟨alloc_old (heap_alloc_at (by simp)),heap_alloc_at (by simp),(((Mb _ _).alloc (Mr _) _).alloc (by simp) _).alloc (by simp;omega) _⟩
theorem Wl (v:W8) (w:World) (hv:v.ok):Calls Tryz.prog 190 #[.agg (ws v)] w fun e w'=>e=.returned (.agg (u8n (bys v)).toArray)∧Bw w w':=by
 have hz:=zero32
 obtain⟨Z,hZ⟩:∃Z:Array Value,Z=(u8n (List.replicate 32 0)).toArray:=⟨_,rfl⟩
 simp only [←hZ] at hz
 have H0:Hid (Kept3 w v 0 _):=Hz (begin3 w v hZ)
 have hia:=fun (k:Nat) (hk:k<8)=>Jq (P:=Tryz.prog) (k:=k) (xs:=wl v) (v:=.int .u32 (v.list.getD k 0:Nat)) Tryz.underlying268 ⟨_,Tryz.underlying227⟩ Gj hk (by rw [wl,u32n,List.getElem?_map,Mq (show k<v.list.length from hk)];simp [Mg,Mq (show k<v.list.length from hk)])
 have HI:=Hz hia
 have hlt8:∀k:Nat,v.list.getD k 0<4294967296:=by
  intro k
  obtain⟨ha,hb,hc,hd,he,hf,hg,hh⟩:=hv
  match k with
  | 0=>exact ha
  | 1=>exact hb
  | 2=>exact hc
  | 3=>exact hd
  | 4=>exact he
  | 5=>exact hf
  | 6=>exact hg
  | 7=>exact hh
  | n+8=>simp [W8.list]
 clear hZ hia
 obtain⟨Y,hY⟩:∃Y:Array Value,Y=(u8n (bys v)).toArray:=⟨_,rfl⟩
 rw [←hY]
 have hi:=Hz (show (Tryz.prog.info? 239).map (·.size)=some (u8n (out v 8)).length by rw [Qv,out_len (by omega)];exact Gz)
 have HY:Hid (Y=(u8n (out v 8)).toArray):=Hz (by rw [hY,out_all])
 rw [wl_ws] at HI
 clear hY
 unfold ws at *
 obtain⟨a,b,c,d,e,f,g,h⟩:=v
 go_enter Tryz.func190,Tryz.ntmps190
 go_wp2
 clear hz
 go_loopw [23,4,5] (fun i _ _ wr=>∃k:Nat,k≤8∧i=.int .i64 k∧Hid (Kept3 w ⟨a,b,c,d,e,f,g,h⟩ k wr)) (fun i _ _ _=>8-(intOf i).toNat)
 case atStart=>exact⟨0,by omega,rfl,H0⟩
 case round=>
  obtain⟨k,hk,rfl,hT⟩:=hrel
  clear H0
  by_cases hlt:k<8
  ·obtain⟨B1,B2,hbel⟩:=hT.o
   have c0:=B2.byte (i:=4*k) (by rw [out_len (by omega)];omega)
   have c1:=B2.byte (i:=4*k+1) (by rw [out_len (by omega)];omega)
   have c2:=B2.byte (i:=4*k+2) (by rw [out_len (by omega)];omega)
   have c3:=B2.byte (i:=4*k+3) (by rw [out_len (by omega)];omega)
   have f0:=B2.frozen (4*k)
   have f1:=B2.frozen (4*k+1)
   have f2:=B2.frozen (4*k+2)
   have f3:=B2.frozen (4*k+3)
   have hix:=HI.o k hlt
   have hnl:=hlt8 k
   have hS4:=Hz (out_set4 ⟨a,b,c,d,e,f,g,h⟩ hlt)
   have hB:=Hz (And.intro B1 (And.intro B2 hbel))
   clear B1 B2 hbel hT
   generalize (W8.mk a b c d e f g h).list.getD k 0=n at *
   go_wp2
   go_roundw
   case rel=>
    refine⟨k+1,by omega,by go_num,Hz ?_⟩
    obtain⟨B1,B2,hbel⟩:=hB.o
    have e0:(n:Int)/16777216=((n/16777216%256:Nat):Int):=by omega
    have e1:(n:Int)/65536%256=((n/65536%256:Nat):Int):=by omega
    have e2:(n:Int)/256%256=((n/256%256:Nat):Int):=by omega
    have e3:(n:Int)%256=((n%256:Nat):Int):=by omega
    rw [e0,e1,e2,e3]
    refine⟨(((B1.far (by simp) _).far (by simp) _).far (by simp) _).far (by simp) _,?_,(((hbel.setCell (by simp;omega) _).setCell (by simp;omega) _).setCell (by simp;omega) _).setCell (by simp;omega) _⟩
    have h5:=(((B2.set (4*k) (.int .u8 ((n/16777216%256:Nat):Int))).set (4*k+1) (.int .u8 ((n/65536%256:Nat):Int))).set (4*k+2) (.int .u8 ((n/256%256:Nat):Int))).set (4*k+3) (.int .u8 ((n%256:Nat):Int))
    rw [Jh,Jh,Jh,Jh,hS4.o] at h5
    exact h5
   case measure=>simp [intOf];omega
  ·obtain rfl:k=8:=by omega
   obtain⟨B1',B2',hbel⟩:=hT.o
   have B1:=Hz B1'
   have B2:=Hz B2'
   have hsz:=hbel.size
   clear B1' B2' hT hlt8
   have hl8:=Hz (out_len (v:=⟨a,b,c,d,e,f,g,h⟩) (k:=8) (by omega))
   generalize out ⟨a,b,c,d,e,f,g,h⟩ 8=O at *
   go_wp2_with (first
    | (refine Qj rfl 239 (.tmp 3) rfl (w.heap.size+1+1) rfl B2.o Tryz.underlying239 rfl hi.o ?_)
    | (refine Qq rfl 239 (.tmp 2) (.tmp 54) rfl (w.heap.size+1) rfl (u8n O) rfl B1.o (by rw [Qv,Qv,hl8.o,List.length_replicate]) hi.o (u8n_one _) ?_;intro w3 hB3 ho3))
   exact Z4 Tryz.results190 rfl rfl hB3.o Tryz.underlying239 rfl (by simpa using hi.o) ⟨by rw [HY.o],ho3.o.below hbel (by omega) (by omega)⟩
end ShaF
namespace ShaG
open Kit Byt ShaM ShaF
theorem Rd.cells (w:World) (xs:List Nat) (e:TypeId) {m:Nat×Nat} {n:Nat} (hn:xs.length=n) (h63:n≤9223372036854775807):Rd (w.alloc (.cells (u8n xs).toArray e m)) (some ⟨w.heap.size,0,none⟩) n n (u8n xs):=by
 refine⟨by rw [Qv,hn],by omega,by omega,fun _=>⟨_,_,rfl,by simp,fun j u hu=>?_⟩⟩
 rw [Nat.zero_add,World.cell?_alloc_mark]
 simpa using hu
theorem Rd.one (w:World) (x:Nat) (e:TypeId) {m:Nat×Nat}:Rd (w.alloc (.cells #[.int .u8 (x:Int)] e m)) (some ⟨w.heap.size,0,none⟩) 1 1 (u8n [x]):=Rd.cells w [x] e rfl (by omega)
theorem Rd.val (w:World) {x:Int} (y:Nat) (h:x=(y:Int)) (e:TypeId) {m:Nat×Nat}:Rd (w.alloc (.cells #[.int .u8 x] e m)) (some ⟨w.heap.size,0,none⟩) 1 1 (u8n [y]):=by
 subst h
 exact Rd.one w y e
theorem eight_val (l k:Nat):(l:Int)*8/2 ^ (8*(7-k))%256=((8*l/2 ^ (8*(7-k))%256:Nat):Int):=by
 rw [Nat.mul_comm 8 l]
 simp
theorem info8:(Tryz.prog.info? 5).map (fun i=>(i.zero,i.size,i.bytes))=some (some (.int .u8 0),1,1):=by kernel_rfl
def Fresh (w:World) (xs:List Nat) (e:Ending) (w':World):Prop:=
 ∃A n c,Hid (n=xs.length)∧e=.returned (.slice A n c)∧w'.ownsRow w.heap.size 5 1 (.slice A n c) n (u8n xs)∧Bw w w'
theorem eight_take (n:Nat) {k:Nat} (h:k<8):(eight n).take (k+1)=(eight n).take k++[8*n/2 ^ (8*(7-k))%256]:=by
 match k,h with
 | 0,_=>rfl
 | 1,_=>rfl
 | 2,_=>rfl
 | 3,_=>rfl
 | 4,_=>rfl
 | 5,_=>rfl
 | 6,_=>rfl
 | 7,_=>simp [eight]
theorem own_room {w:World} {g:Nat} {e:TypeId} (h:w.heap[g]?=some (.cells (List.replicate 72 (Value.int .u8 0)).toArray e (0,0))):w.ownsRow g e 1 (.slice (some ⟨g,0,none⟩) 0 72) 0 (u8n []):=by
 have h':=Q0 (base:=g) (n:=0) h (Mr _) (by simp) (by simp)
 simpa [u8n] using h'
def Zs (w:World) (l j:Nat) (out:Value) (wr:World):Prop:=
 ∃A n c,out=.slice A n c∧n=1+j∧j≤zs l∧wr.ownsRow w.heap.size 5 1 (.slice A n c) n (u8n ([128]++List.replicate j 0))∧Bw w wr
def Es (w:World) (l k:Nat) (out:Value) (wr:World):Prop:=
 ∃A n c,out=.slice A n c∧n=1+zs l+k∧wr.ownsRow w.heap.size 5 1 (.slice A n c) n (u8n ([128]++List.replicate (zs l) 0++(eight l).take k))∧Bw w wr
theorem zs_lt (l:Nat):zs l<64:=by unfold zs;omega
theorem zs_not {l j n:Nat} (h:j<zs l) (hn:n=1+j):(((l:Int)+(n:Int)+8)%64 != 0)=true:=by
 unfold zs at h
 simp
 omega
theorem zs_end {l j n:Nat} (h:j=zs l) (hn:n=1+j):(((l:Int)+(n:Int)+8)%64 != 0)=false:=by
 unfold zs at h
 simp
 omega
theorem ending_any (l:Nat) (w:World) (hl:l<1099511627776):Calls Tryz.prog 189 #[.int .i64 (l:Nat)] w (Fresh w (tail l)):=by
 obtain⟨i0,hi0,hz0,hz1,hz2⟩:=info_parts info8
 have hzl:=zs_lt l
 go_enter Tryz.func189,Tryz.ntmps189
 go_wp2_with (first
  | (refine Qx _ rfl _ _ 31 rfl 5 i0 (.int .u8 0) 1 Tryz.underlying31 hi0 hz0 hz1 hz2 rfl .i64 .i64 0 72 0 72 rfl rfl rfl rfl (by omega) (by omega) (by omega) ?_;intro w1 hB1 hb1 hs1)
  | (at_builtin;refine Qu _ rfl (.tmp 5) (.tmp 6) _ rfl w.heap.size 5 i0 _ 1 Tryz.underlying31 hi0 hz0 hz1 hz2 rfl _ 0 (u8n []) rfl ((own_room hB1.o).alloc _) (some ⟨w1.heap.size,0,none⟩) 1 1 (u8n [128]) (by rw [hs1];rfl) (Rd.one w1 128 _) (u8n_one _) (by omega) (by omega) (by simp;omega) ?_;intro A2 n2 c2 w2 hn2 hown2 hg2 hat2;have hb2:=below_add (hb1.alloc hb1.size _) ((own_room hB1.o).alloc _) (Mr _) hg2;clear hat2 hg2))
 have H0:Hid (Zs w l 0 (.slice A2 n2 c2) w2):=Hz ⟨A2,n2,c2,rfl,by have:=hn2.o;omega,by omega,by rw [Ju] at hown2;exact hown2,hb2⟩
 clear hown2 hb2 hn2 hB1 hb1 hs1
 go_loopw [3] (fun o wr=>∃j:Nat,j≤zs l∧Hid (Zs w l j o wr)∧∃A,∃n c:Nat,o=.slice A n c) (fun o _=>match o with | .slice _ n _=>100-n|_=>0)
 case atStart=>exact⟨0,by omega,H0,_,_,_,rfl⟩
 case round=>
  obtain⟨j,hj,hT,A,n,c,rfl⟩:=hrel
  clear H0
  obtain⟨_,_,_,ho,hn,_,hown,hbel⟩:=hT.o
  injection ho with h1 h2 h3
  subst h1 h2 h3
  by_cases hlt:j<zs l
  ·have hne:=zs_not hlt hn
   have hn65:n≤65:=by omega
   have hnj:=Hz hn
   clear hn
   go_wp2_with (at_builtin;refine Qu _ rfl (.tmp 15) (.tmp 16) _ rfl w.heap.size 5 i0 _ 1 Tryz.underlying31 hi0 hz0 hz1 hz2 rfl _ n _ rfl (hown.alloc _) (some ⟨wr.heap.size,0,none⟩) 1 1 (u8n [0]) rfl (Rd.one wr 0 _) (u8n_one _) (by omega) (by omega) (by have:=hbel.size;simp;omega) ?_;intro A3 n3 c3 w3 hn3 hown3 hg3 hat3;have hb3:=below_add (hbel.alloc hbel.size _) (hown.alloc _) (Mr _) hg3;clear hat3 hg3)
   have H3:Hid (Zs w l (j+1) (.slice A3 n3 c3) w3):=Hz ⟨A3,n3,c3,rfl,by have:=hn3.o;have:=hnj.o;omega,by omega,by rw [Ju,List.append_assoc,←List.replicate_succ'] at hown3;exact hown3,hb3⟩
   clear hown3 hb3 hT hown hne
   go_roundw
   case rel=>exact⟨j+1,by omega,H3,_,_,_,rfl⟩
   case measure=>have:=hn3.o;simp only [];omega
  ·have hjz:j=zs l:=by omega
   have hne:=zs_end hjz hn
   subst hjz
   have H4:Hid (Es w l 0 (.slice A n c) wr):=Hz ⟨A,n,c,rfl,by omega,by simpa using hown,hbel⟩
   have hn65:n≤65:=by omega
   clear hT hown hn hbel hlt hj
   go_wp2
   clear hne hn65
   go_loopw [18,3,4] (fun i o _ wr=>∃k:Nat,k≤8∧i=.int .i64 k∧Hid (Es w l k o wr)∧∃A,∃n c:Nat,o=.slice A n c) (fun i _ _ _=>8-(intOf i).toNat)
   case atStart=>exact⟨0,by omega,rfl,H4,_,_,_,rfl⟩
   case round=>
    obtain⟨k,hk,rfl,hT,A,n,c,rfl⟩:=hrel
    clear H4
    obtain⟨_,_,_,ho,hn,hown,hbel⟩:=hT.o
    injection ho with h1 h2 h3
    subst h1 h2 h3
    by_cases hlt:k<8
    ·have hn65:n≤72:=by omega
     have hnj:=Hz hn
     clear hn
     have hE:Hid ((eight l).take (k+1)=(eight l).take k++[8*l/2 ^ (8*(7-k))%256]):=Hz (eight_take l hlt)
     go_wp2_with (at_builtin;refine Qu _ rfl (.tmp 21) (.tmp 30) _ rfl w.heap.size 5 i0 _ 1 Tryz.underlying31 hi0 hz0 hz1 hz2 rfl _ n _ rfl (hown.alloc _) (some ⟨wr.heap.size,0,none⟩) 1 1 (u8n [8*l/2 ^ (8*(7-k))%256]) rfl (Rd.val wr _ (eight_val l k) _) (u8n_one _) (by omega) (by omega) (by have:=hbel.size;simp;omega) ?_;intro A3 n3 c3 w3 hn3 hown3 hg3 hat3;have hb3:=below_add (hbel.alloc hbel.size _) (hown.alloc _) (Mr _) hg3;clear hat3 hg3)
     have H3:Hid (Es w l (k+1) (.slice A3 n3 c3) w3):=Hz ⟨A3,n3,c3,rfl,by have:=hn3.o;have:=hnj.o;omega,by rw [Ju,List.append_assoc,←hE.o] at hown3;exact hown3,hb3⟩
     clear hown3 hb3 hT hown hE
     go_roundw
     case rel=>exact⟨k+1,by omega,by go_num,H3,_,_,_,rfl⟩
     case measure=>simp [intOf];omega
    ·obtain rfl:k=8:=by omega
     go_wp2
     go_ret
     exact⟨A,n,c,Hz (by rw [tail_len];omega),rfl,hown,hbel⟩
end ShaG
namespace ShaH
open Kit Byt ShaM ShaK ShaD ShaE ShaG
def hc (u:W8) (op:List Nat) (n:Nat):List Value:=wl u++(u8n op++[.int .i64 (n:Int)])
theorem hc_len {u:W8} {op:List Nat} {n:Nat} (h:op.length=64):(hc u op n).length=73:=by
 rw [hc,Ma,Jv,Ma,Qv,h];rfl
theorem hc_long {u:W8} {op:List Nat} {n:Nat} (h:op.length=64):(hc u op n)[72]?=some (.int .i64 (n:Int)):=by
 rw [hc,List.getElem?_append_right (by rw [Jv];omega),Jv,List.getElem?_append_right (by rw [Qv];omega),Qv,h];rfl
theorem Kj {u:W8} {op:List Nat} {n:Nat} (h:op.length=64) (m:Nat):(hc u op n).set 72 (.int .i64 (m:Int))=hc u op m:=by
 rw [hc,List.set_append,if_neg (by rw [Jv];omega),Jv,List.set_append,if_neg (by rw [Qv];omega),Qv,h];rfl
theorem hc_range {u:W8} {op:List Nat} {n:Nat} (h:op.length=64):((hc u op n).drop 8).take (u8n op).length=u8n op:=by
 rw [hc,List.drop_append_of_le_length (by rw [Jv];omega),show (wl u).drop 8=[] from rfl,List.nil_append,List.take_left]
theorem qzl {u:W8} {op ys:List Nat} {n r:Nat} (h:op.length=64) (hr:r+ys.length≤64):splice (hc u op n) (8+r) (u8n ys)=hc u (splice op r ys) n:=by
 have h1:(hc u op n).take (8+r)=wl u++u8n (op.take r):=by
  rw [hc,List.take_append,Jv,Mt (by rw [Jv];omega),show 8+r-8=r by omega,List.take_append_of_le_length (by rw [Qv];omega)]
  simp [u8n]
 have h2:(hc u op n).drop (8+r+(u8n ys).length)=u8n (op.drop (r+ys.length))++[.int .i64 (n:Int)]:=by
  rw [Qv,hc,List.drop_append,Jv,show (wl u).drop (8+r+ys.length)=[] from List.drop_of_length_le (by rw [Jv];omega),List.nil_append,show 8+r+ys.length-8=r+ys.length by omega,List.drop_append_of_le_length (by rw [Qv];omega)]
  simp [u8n]
 rw [splice,h1,h2,hc,splice]
 simp [u8n]
def Hs (w:World) (g:Nat) (l:List Nat):Prop:=
 ∃op:List Nat,op.length=64∧by256 op∧op.take (l.length%64)=l.drop (64*(l.length/64))∧Blk w g 237 (hc (bk l (l.length/64)) op l.length)
theorem Hs.lt {w:World} {g:Nat} {l:List Nat} (h:Hs w g l):g<w.heap.size:=by
 obtain⟨op,_,_,_,hB⟩:=h
 exact hB.lt
theorem Hs.below {w w':World} {g:Nat} {l:List Nat} (h:Hs w g l) (hb:Bw w w'):Hs w' g l:=by
 obtain⟨op,h1,h2,h3,hB⟩:=h
 exact⟨op,h1,h2,h3,hB.below hb⟩
theorem T6 {op l ys:List Nat} {q r:Nat} (h:op.length=64) (hl:l.length=64*q+r) (hop:op.take r=l.drop (64*q)) (hy:r+ys.length≤64):(splice op r ys).take (r+ys.length)=(l++ys).drop (64*q):=by
 have hr:(op.take r).length=r:=by simp;omega
 rw [splice,←List.append_assoc,List.take_append_of_le_length (by simp;omega),Mt (by simp;omega),hop,List.drop_append_of_le_length (by omega)]
theorem Hs.part {w:World} {g:Nat} {l ys op:List Nat} (h:op.length=64) (h2:by256 op) (hy:by256 ys) (hop:op.take (l.length%64)=l.drop (64*(l.length/64))) (hr:l.length%64+ys.length<64)
 (hB:Blk w g 237 (hc (bk l (l.length/64)) (splice op (l.length%64) ys) (l.length+ys.length))):Hs w g (l++ys):=by
 have hq:(l++ys).length/64=l.length/64:=by simp;omega
 have hm:(l++ys).length%64=l.length%64+ys.length:=by simp;omega
 refine⟨splice op (l.length%64) ys,by rw [length_splice _ _ _ (by omega),h],?_,?_,?_⟩
 ·intro c hc
  simp only [splice,List.mem_append] at hc
  rcases hc with hc|hc|hc
  ·exact h2 c (List.mem_of_mem_take hc)
  ·exact hy c hc
  ·exact h2 c (List.mem_of_mem_drop hc)
 ·rw [hm,hq]
  exact T6 h (by omega) hop (by omega)
 ·rw [hq,bk_app l ys _ (by omega),Ma]
  exact hB
theorem T7 {op ys:List Nat} {r:Nat} (h2:by256 op) (hy:by256 ys):by256 (splice op r ys):=by
 intro c hc
 simp only [splice,List.mem_append] at hc
 rcases hc with hc|hc|hc
 ·exact h2 c (List.mem_of_mem_take hc)
 ·exact hy c hc
 ·exact h2 c (List.mem_of_mem_drop hc)
theorem Hs.full {w:World} {g:Nat} {l ys op:List Nat} (h:op.length=64) (h2:by256 op) (hy:by256 ys) (hop:op.take (l.length%64)=l.drop (64*(l.length/64))) (hr:l.length%64+ys.length=64)
 (hB:Blk w g 237 (hc (blk (bk l (l.length/64)) (splice op (l.length%64) ys)) (splice op (l.length%64) ys) (l.length+ys.length))):Hs w g (l++ys):=by
 have hq:(l++ys).length/64=l.length/64+1:=by simp;omega
 have hm:(l++ys).length%64=0:=by simp;omega
 have hlen:(splice op (l.length%64) ys).length=64:=by rw [length_splice _ _ _ (by omega),h]
 have hs:=T6 (q:=l.length/64) h (by omega) hop (Nat.le_of_eq hr)
 rw [hr,Mt (by omega)] at hs
 refine⟨splice op (l.length%64) ys,hlen,T7 h2 hy,?_,?_⟩
 ·rw [hm,hq,List.take_zero,List.drop_of_length_le (by simp;omega)]
 ·rw [hq,bk,bk_app l ys _ (by omega),←hs,Mt (by omega),Ma]
  exact hB
def Src (w:World) (g:Nat) (A:Option Addr) (n c:Nat) (xs:List Nat):Prop:=Rd w A n c (u8n xs)∧(0<n→∀b o,A=some ⟨b,o,none⟩→b≠g)
theorem Src.grown {w w':World} {g n c:Nat} {A:Option Addr} {xs:List Nat} (h:Src w g A n c xs) (hg:w.grownBy w' (some g)):Src w' g A n c xs:=by
 refine⟨?_,h.2⟩
 rcases Nat.eq_zero_or_pos n with h0|h0
 ·have hx:xs=[]:=List.eq_nil_of_length_eq_zero (by have:=Rd.nats h.1;omega)
  subst h0 hx
  exact Rd.empty w' A h.1.cap
 ·exact Rd.grown h.1 hg fun k hk b o hA=>by injection hk with hk;subst hk;exact h.2 h0 b o hA
theorem Src.cut {w:World} {g n c m:Nat} {A:Option Addr} {xs:List Nat} (h:Src w g A n c xs) (hm:m≤n):Src w g (if c=m then A else A.map (·.add m)) (n-m) (c-m) (xs.drop m):=by
 have hl:=Rd.nats h.1
 rcases Nat.eq_zero_or_pos (n-m) with h0|h0
 ·have hx:xs.drop m=[]:=List.drop_of_length_le (by omega)
  rw [h0,hx]
  exact⟨Rd.empty w _ (by have:=h.1.cap;omega),fun h=>absurd h (by omega)⟩
 ·have hle:=h.1.le
  rw [if_neg (by omega)]
  obtain⟨b,o,hA,hb,hj⟩:=h.1.2.2.2 (by omega)
  have hA2:A.map (·.add m)=some ⟨b,o+m,none⟩:=by rw [hA];simp [Addr.add_lit]
  rw [hA2]
  refine⟨⟨by rw [Qv];simp;omega,by omega,by have:=h.1.cap;omega,fun _=>⟨b,o+m,rfl,hb,fun j u hu=>?_⟩⟩,fun _ b' o' he=>?_⟩
  ·rw [Nat.add_assoc]
   refine hj (m+j) u ?_
   rw [←hu]
   simp [u8n]
  ·injection he with he
   injection he with hb'
   subst hb'
   exact h.2 (by omega) _ _ hA
end ShaH
end Go.Proofs.YtpidbddllnidhaaGreatDoor
