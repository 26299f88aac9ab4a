/- The parts that this claim uses of: ShaK. Conditions: those that each law names. -/
import Derived.Test.YtkepomnbhnnliaaGreatDoorK05
set_option maxRecDepth 100000
set_option maxHeartbeats 12800000
namespace Go.Proofs.YtkepomnbhnnliaaGreatDoor
namespace ShaK
open Go.RowKit Kit Byt ShaC
def u32n (xs:List Nat):List Value:=xs.map fun n:Nat=>Value.int .u32 (n:Int)
theorem u32n_len (xs:List Nat):(u32n xs).length=xs.length:=List.length_map ..
def Blk (w:World) (g:Nat) (t:TypeId) (xs:List Value):Prop:=w.heap[g]?=some (.cells xs.toArray t (0,0))
section
variable {w w':World} {g:Nat} {t:TypeId} {xs:List Value}
theorem Blk.cell (h:Blk w g t xs) {i:Nat} {v:Value} (hi:xs[i]?=some v):w.cell? ⟨g,i,none⟩=some v:=by
 rw [cell_of_row w g i _ _ _ h]
 simpa using hi
theorem Blk.byte {bs:List Nat} (h:Blk w g t (u8n bs)) {i:Nat} (hi:i<bs.length):w.cell? ⟨g,i,none⟩=some (.int .u8 (bs.getD i 0:Nat)):=
 h.cell (by simp [u8n,hi])
theorem Blk.word {bs:List Nat} (h:Blk w g t (u32n bs)) {i:Nat} (hi:i<bs.length):w.cell? ⟨g,i,none⟩=some (.int .u32 (bs.getD i 0:Nat)):=
 h.cell (by simp [u32n,hi])
theorem Blk.frozen (h:Blk w g t xs) (i:Nat):w.frozen? ⟨g,i,none⟩=false:=frozen_of_row w g i _ _ h
theorem Blk.set (h:Blk w g t xs) (i:Nat) (v:Value):Blk (w.setCell ⟨g,i,none⟩ v) g t (xs.set i v):=setL h i v
theorem Blk.below (h:Blk w g t xs) (hb:Below w.heap.size w w'):Blk w' g t xs:=block_below h hb
theorem Blk.lt (h:Blk w g t xs):g<w.heap.size:=lt_some h
theorem Blk.alloc (h:Blk w g t xs) (o:Obj):Blk (w.alloc o) g t xs:=alloc_old h
theorem Blk.far (h:Blk w g t xs) {p:Addr} (hp:g≠p.block) (u:Value):Blk (w.setCell p u) g t xs:=(Below.heap_setCell w p u g hp).trans h
end
theorem u32n_set (xs:List Nat) (k y:Nat):(u32n xs).set k (.int .u32 (y:Int))=u32n (xs.set k y):=by simp [u32n,List.map_set]
theorem u32n_one (xs:List Nat):∀u ∈ u32n xs,u.oneCell'=true:=by
 intro u hu
 simp only [u32n,List.mem_map] at hu
 obtain⟨n,_,rfl⟩:=hu
 rfl
def Only (g:Nat) (w w':World):Prop:=w.grownBy w' (some g)∧w'.heap.size=w.heap.size
theorem Only.below {g B:Nat} {w0 w w':World} (h:Only g w w') (hb:Below B w0 w) (hg:B≤g) (hs:B≤w.heap.size):Below B w0 w':=hb.grown h.1 hs fun k hk=>by injection hk with hk;omega
theorem Only.blk {g k:Nat} {w w':World} {t:TypeId} {xs:List Value} (h:Only g w w') (hB:Blk w k t xs) (hne:k≠g):Blk w' k t xs:=
 (h.1.block k hB.lt (by simpa using hne)).trans hB
theorem Only.refl (g:Nat) (w:World):Only g w w:=⟨World.grownBy.refl w _,rfl⟩
theorem Only.row (w:World) (g:Nat) (cs:Array Value):Only g w (w.setRow g cs):=
 ⟨⟨rfl,rfl,rfl,by simp [World.setRow],fun i _ hne=>setRow_other w g i cs (by simpa using hne)⟩,by simp [World.setRow]⟩
theorem Only.of_drew {g:Nat} {w w':World} (h:Only g w.drew w'):Only g w w':=⟨⟨h.1.os,h.1.tape,h.1.output,h.1.size,h.1.block⟩,h.2⟩
theorem Only.trans {g:Nat} {a b c:World} (h:Only g a b) (k:Only g b c):Only g a c:=
 ⟨⟨k.1.os.trans h.1.os,k.1.tape.trans h.1.tape,k.1.output.trans h.1.output,Nat.le_trans h.1.size k.1.size,fun i hi hne=>(k.1.block i (by rw [h.2];exact hi) hne).trans (h.1.block i hi hne)⟩,k.2.trans h.2⟩
theorem Only.set (w:World) (g i:Nat) (v:Value):Only g w (w.setCell ⟨g,i,none⟩ v):=
 ⟨⟨rfl,rfl,rfl,by simp [World.setCell],fun k _ hne=>Below.heap_setCell w _ v k (by simpa using hne)⟩,by simp [World.setCell]⟩
section
variable {P:Program} {ops:Array Oper} {rest:List Oper} {o:Oper} {a:Act} {w:World} {Q:Exit→Act→World→Prop}
theorem wpList_load_blk (hgd:o.guard=none) (ty:TypeId) (x:Operand) (ho:o.op=.load ty x) (g:Nat) (hx:a.eval x=.pointer (some ⟨g,0,none⟩))
 {t:TypeId} {xs:List Value} {d:TypeDesc} (hB:Blk w g t xs) (hu:P.underlying ty=some d) (hd:(match d with | .struct _ | .array _ _=>true|_=>false)=true) (hi:(P.info? ty).map (·.size)=some xs.length)
 (h:wpList P ops Q rest (a.put o.dst (.agg xs.toArray)) w):wpList P ops Q (o :: rest) a w:=
 wpList_load_row hgd ty x ho g hx t xs.toArray (0,0) d hB hu hd (by simpa using hi) h
theorem Blk.range {g off:Nat} {t:TypeId} {xs cs:List Value} (hB:Blk w g t xs) (hc:(xs.drop off).take cs.length=cs):w.rangeAt g off cs:=fun j v hv=>by
 refine hB.cell ?_
 have hj:=(List.getElem?_eq_some_iff.1 hv).1
 rw [←hv,←hc,List.getElem?_take,if_pos hj,List.getElem?_drop]
theorem wpList_load_part (hgd:o.guard=none) (ty:TypeId) (x:Operand) (ho:o.op=.load ty x) (g off:Nat) (hx:a.eval x=.pointer (some ⟨g,off,none⟩))
 {t:TypeId} {xs:List Value} (cs:List Value) {d:TypeDesc} (hB:Blk w g t xs) (hc:(xs.drop off).take cs.length=cs) (hu:P.underlying ty=some d) (hd:d.isRow=true) (hi:(P.info? ty).map (·.size)=some cs.length)
 (h:wpList P ops Q rest (a.put o.dst (.agg cs.toArray)) w):wpList P ops Q (o :: rest) a w:=
 wpList_load_mid hgd ty x ho g off hx cs d (hB.range hc) hu hd hi h
theorem run_store_part (w:World) (ty:TypeId) (g off:Nat) {t:TypeId} {xs:List Value} (cs:List Value) (hB:Blk w g t xs) (hfit:off+cs.length≤xs.length) (hi:(P.info? ty).map (·.size)=some cs.length) (h1:∀v ∈ cs,v.oneCell'=true) :
 (storeVar ty ⟨g,off,none⟩ (.agg cs.toArray)).run P w=.ok () (w.setRow g (splice xs off cs).toArray):=by
 have hst:=run_storeCells_at P g off t cs 0 xs.toArray w hB (by simpa using hfit) h1
 cases hq:P.info? ty with
 | none=>simp [hq] at hi
 | some i=>
   have hs:i.size=cs.length:=by simpa [hq] using hi
   simp only [Nat.add_zero] at hst
   simp [storeVar,sizeOf,typeInfo,hq,Value.cells,hs,hst,splice]
theorem wpList_store_part (hgd:o.guard=none) (ty:TypeId) (x y:Operand) (ho:o.op=.store ty x y) (g off:Nat) (hx:a.eval x=.pointer (some ⟨g,off,none⟩))
 {t:TypeId} {xs:List Value} (cs:List Value) (hy:a.eval y=.agg cs.toArray) (hB:Blk w g t xs) (hfit:off+cs.length≤xs.length) (hi:(P.info? ty).map (·.size)=some cs.length) (h1:∀v ∈ cs,v.oneCell'=true)
 (h:∀w',Hid (Blk w' g t (splice xs off cs))→Hid (Only g w w')→wpList P ops Q rest (a.put o.dst undef) w'):wpList P ops Q (o :: rest) a w:=by
 refine wpList_plain hgd fun K hK=>?_
 unfold Oper.wp execOp
 simp only [ho,hx,hy,Instr.storeAt,Instr.sureAddr,Sem.run_bind,Sem.run_pure,Result.andThen_ok,run_store_part w ty g off cs hB hfit hi h1]
 exact hK _ _ (h _ (Hz (setRow_heap w g _ _ t _ hB)) (Hz (Only.row w g _)))
theorem wp_store_part {K:Act→World→Prop} (ty:TypeId) (x y:Operand) (ho:o.op=.store ty x y) (g off:Nat) (hx:a.eval x=.pointer (some ⟨g,off,none⟩))
 {t:TypeId} {xs:List Value} (cs:List Value) (hy:a.eval y=.agg cs.toArray) (hB:Blk w g t xs) (hfit:off+cs.length≤xs.length) (hi:(P.info? ty).map (·.size)=some cs.length) (h1:∀v ∈ cs,v.oneCell'=true)
 (h:∀w',Hid (Blk w' g t (splice xs off cs))→Hid (Only g w w')→K (a.put o.dst undef) w'):o.wp P a w K Q:=by
 unfold Oper.wp execOp
 simp only [ho,hx,hy,Instr.storeAt,Instr.sureAddr,Sem.run_bind,Sem.run_pure,Result.andThen_ok,run_store_part w ty g off cs hB hfit hi h1]
 exact h _ (Hz (setRow_heap w g _ _ t _ hB)) (Hz (Only.row w g _))
theorem splice_all {α:Type} {xs cs:List α} (h:xs.length=cs.length):splice xs 0 cs=cs:=by
 simp [splice,h▸List.drop_length]
theorem wpList_store_blk (hgd:o.guard=none) (ty:TypeId) (x y:Operand) (ho:o.op=.store ty x y) (g:Nat) (hx:a.eval x=.pointer (some ⟨g,0,none⟩))
 {t:TypeId} {xs:List Value} (cs:List Value) (hy:a.eval y=.agg cs.toArray) (hB:Blk w g t xs) (hfit:xs.length=cs.length) (hi:(P.info? ty).map (·.size)=some cs.length) (h1:∀v ∈ cs,v.oneCell'=true)
 (h:∀w',Hid (Blk w' g t cs)→Hid (Only g w w')→wpList P ops Q rest (a.put o.dst undef) w'):wpList P ops Q (o :: rest) a w:=
 wpList_store_part hgd ty x y ho g 0 hx cs hy hB (by omega) hi h1 (by rw [splice_all hfit];exact h)
theorem run_index_one {t e:TypeId} {n k:Nat} {xs:List Value} {v:Value} (ht:P.underlying t=some (.array n e)) (hd:∃d,P.underlying e=some (.int d)) (hi:(P.info? e).map (·.size)=some 1) (hk:k<n) (hv:xs[k]?=some v) (w:World) :
 (Instr.index t (.agg xs.toArray) (.int .i64 (k:Int))).run P w=.ok v w:=by
 obtain⟨d,hd⟩:=hd
 cases hq:P.info? e with
 | none=>simp [hq] at hi
 | some i=>
   have hs:i.size=1:=by simpa [hq] using hi
   simp [Instr.index,run_underlying ht,asIntOf,sizeOf,typeInfo,hq,hs,hk,part,isAgg,run_underlying hd,hv]
theorem wpList_copy_part (hgd:o.guard=none) (d s:Operand) (dT sT:TypeId) (ho:o.op=.call { callee:=.builtin .copy,args:=#[d,s],argTypes:=#[dT,sT] }) (elem:TypeId) (hu:P.underlying dT=some (.slice elem)) (hsz:(P.info? elem).map (·.size)=some 1)
 (g off dLen dCap:Nat) (hd:a.eval d=.slice (some ⟨g,off,none⟩) dLen dCap) {A:Option Addr} {n c:Nat} {ys:List Value} (hs:a.eval s=.slice A n c) (hR:Rd w A n c ys) (h1:∀v ∈ ys,v.oneCell'=true)
 {t:TypeId} {xs:List Value} (hB:Blk w g t xs) (hfit:off+dLen≤xs.length)
 (h:∀w' m,Hid (m=min n dLen)→Hid (Blk w' g t (splice xs off (ys.take m)))→Hid (Only g w w')→wpList P ops Q rest (a.put o.dst (.int .i64 (m:Nat))) w'):wpList P ops Q (o :: rest) a w:=by
 have hl:=hR.len
 have hcl:(ys.take (min n dLen)).length=min n dLen:=by simp;omega
 by_cases h0:min n dLen=0
 ·refine wpList_copy_nothing hgd d s dT sT ho elem hu hsz (some ⟨g,off,none⟩) A dLen dCap n c hd hs h0 ?_
  exact h w 0 (Hz h0.symm) (Hz (by simpa [splice] using hB)) (Hz (Only.refl g w))
 ·obtain⟨b,oo,hA,_,hj⟩:=hR.2.2.2 (by omega)
  subst hA
  refine wpList_copy_own hgd d s dT sT ho elem hu hsz g off dLen dCap ⟨b,oo,none⟩ n c hd hs xs.toArray t hB (ys.take (min n dLen)) hcl (fun j v hv=>?_) (by rw [hcl];simp;omega) (fun v hv=>h1 v (List.mem_of_mem_take hv)) ?_
  ·rw [Addr.add_lit]
   rw [List.getElem?_take] at hv
   split at hv
   ·exact hj j v hv
   ·cases hv
  ·have h2:=h (w.setRow g (splice xs off (ys.take (min n dLen))).toArray) (min n dLen) (Hz rfl) (Hz (setRow_heap w g _ _ t _ hB)) (Hz (Only.row w g _))
   rw [hcl]
   simpa [splice,goInt,hcl] using h2
end
end ShaK
end Go.Proofs.YtkepomnbhnnliaaGreatDoor
