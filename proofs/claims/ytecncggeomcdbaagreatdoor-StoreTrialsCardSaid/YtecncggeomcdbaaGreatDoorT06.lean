/- Parts of the proof, each under the conditions that it names. -/
import Derived.Test.YtecncggeomcdbaaGreatDoorT05
import Derived.Laws.BytesArg
import Derived.Lib.Bytes
import Derived.Laws.OwnMore
import Derived.Deep.Strs
import Derived.Deep.Quiet
import Derived.ChangeKeysEq
import Derived.Laws.StructEq
set_option maxRecDepth 100000
set_option maxHeartbeats 12800000
namespace Go.Proofs.YtecncggeomcdbaaGreatDoor
open Go.RowKit
namespace ShaJ
open Kit Byt ShaM ShaB ShaC ShaK ShaE ShaF ShaG ShaH ShaI
theorem Wh {P:Program} {ops:Array Oper} {rest:List Oper} {o:Oper} {a:Act} {w:World} {Q:Exit→Act→World→Prop} (hg:o.guard=none) (t:TypeId) (parts:Array (Nat×Operand)) (ho:o.op=.build t parts)
 (cells:Array Value) (hc:P.built t (parts.map fun (i,x)=>(i,a.eval x)).toList=some cells) (h:wpList P ops Q rest (a.put o.dst (.agg cells)) w):wpList P ops Q (o :: rest) a w:=
 wpList_build hg t parts ho (by rw [hc];rfl) (by rw [hc];exact h)
theorem qzg:Tryz.prog.built 198 [(0,.agg (ws w0))]=some (hc w0 (List.replicate 64 0) 0).toArray:=by kernel_rfl
theorem Nw (w:World):Calls Tryz.prog 72 #[] w fun e w'=>∃g,e=.returned (.pointer (some ⟨g,0,none⟩))∧w.heap.size≤g∧Hs w' g []∧Bw w w':=by
 obtain⟨Y,hY⟩:∃Y:Array Value,Y=(hc w0 (List.replicate 64 0) 0).toArray:=⟨_,rfl⟩
 have hbn:=qzg
 rw [←hY] at hbn
 have HB:=Hz hbn
 have HY:=Hz hY
 clear hY hbn
 go_enter Tryz.func72,Tryz.ntmps72
 go_wp2_with (first
  | (go_at_call 112;refine (first_any _).mono ?_;rintro e w1 ⟨rfl,hb1⟩)
  | (refine Wh rfl 198 _ rfl Y (by simpa [Act.eval] using HB.o) ?_))
 go_ret
 have hB:Blk (w1.alloc (.cells Y 198)) w1.heap.size 198 (hc w0 (List.replicate 64 0) 0):=Blk_at HY.o rfl
 exact⟨w1.heap.size,rfl,hb1.size,⟨List.replicate 64 0,by simp,fun c hc=>by rw [(List.mem_replicate.1 hc).2];decide,by simp,hB⟩,hb1.alloc hb1.size _⟩
theorem Vj {w:World} {base n c:Nat} {e:TypeId} {A:Option Addr} {xs:List Value} (h:w.ownsRow base e 1 (.slice A n c) n xs) (hn:0<n):∃g,A=some ⟨g,0,none⟩∧base≤g∧g<w.heap.size:=by
 rcases h.2 with⟨hv,h0⟩|⟨g,cap',cur,hv,hb,hh,_⟩
 ·omega
 ·simp only [Value.slice.injEq] at hv
  exact⟨g,hv.1,hb,lt_of_block hh⟩
theorem zero51 (w:World):(zeroValue 198).run Tryz.prog w=.ok (.agg (hc ⟨0,0,0,0,0,0,0,0⟩ (List.replicate 64 0) 0).toArray) w:=by kernel_rfl
theorem qzh:(Tryz.prog.info? 198).map (·.size)=some 73:=by kernel_rfl
theorem hc_one (u:W8) (op:List Nat) (n:Nat):∀v ∈ hc u op n,v.oneCell'=true:=by
 intro v hv
 simp only [hc,List.mem_append,List.mem_singleton] at hv
 rcases hv with hv|hv|hv
 ·exact u32n_one _ v hv
 ·exact u8n_one _ v hv
 ·subst hv;rfl
theorem src_own {w:World} {g n c:Nat} {A:Option Addr} {xs:List Nat} {base:Nat} {e:TypeId} (h:w.ownsRow base e 1 (.slice A n c) n (u8n xs)) (hg:g<base):Src w g A n c xs:=
 ⟨Rd.own h,fun hn b o hA=>by
  obtain⟨g',hA',hb,_⟩:=Vj h hn
  rw [hA] at hA'
  injection hA' with hA'
  injection hA' with hb'
  omega⟩
theorem sum_any (g:Nat) (l:List Nat) (w:World) (hT:Tab w) (hH:Hs w g l) (hl:by256 l) (hbd:l.length<549755813888) :
 Calls Tryz.prog 114 #[.pointer (some ⟨g,0,none⟩)] w fun e w'=>e=.returned (.agg (u8n (dig l)).toArray)∧Bw w w':=by
 obtain⟨op,h1,h2,h3,hB⟩:=hH
 obtain⟨u,hu⟩:∃u,u=bk l (l.length/64):=⟨_,rfl⟩
 rw [←hu] at hB
 have cL:w.cell? ⟨g,72,none⟩=some (.int .i64 (l.length:Int)):=hB.cell (hc_long h1)
 have hgl:=hB.lt
 have H1:=Hz h1
 have H3:=Hz h3
 have HB:=Hz hB
 have Hu:=Hz hu
 have HT:=Hz hT
 have hz:=zero51
 have hz32:=zero32
 obtain⟨Z,hZ⟩:∃Z:Array Value,Z=(hc ⟨0,0,0,0,0,0,0,0⟩ (List.replicate 64 0) 0).toArray:=⟨_,rfl⟩
 obtain⟨Z2,hZ2⟩:∃Z2:Array Value,Z2=(u8n (List.replicate 32 0)).toArray:=⟨_,rfl⟩
 simp only [←hZ] at hz
 simp only [←hZ2] at hz32
 have HZ:=Hz hZ
 have HZ2:=Hz hZ2
 clear hZ hZ2 hu hB h1 h3 hT
 obtain⟨L,hL⟩:∃L,L=l.length:=⟨_,rfl⟩
 rw [←hL] at cL hbd
 have HL:=Hz hL
 clear hL
 have hi:=Hz (show (Tryz.prog.info? 198).map (·.size)=some (hc u op l.length).length by rw [hc_len H1.o];exact qzh)
 go_enter Tryz.func114,Tryz.ntmps114
 go_wp2_with (first
  | (refine Qj rfl 198 (.tmp 8) rfl g rfl (HB.o.alloc _) Tryz.underlying198 rfl hi.o ?_)
  | (refine Qq rfl 198 (.tmp 3) (.tmp 9) rfl (w.heap.size+1) rfl (hc u op l.length) rfl (Blk_at HZ.o (by simp)) (by rw [hc_len H1.o,hc_len (by simp)]) hi.o (hc_one _ _ _) ?_;intro w3 hB3 ho3;have hb3:=ho3.o.below (((Mb w.heap.size w).alloc (Mr _) (.cells Z2 200)).alloc (by simp) (.cells Z 198)) (by omega) (by simp;omega);have hR3:=Hz (ho3.o.blk (Blk.alloc (Blk_at (n:=w.heap.size) HZ2.o rfl) _) (by omega));have cL3:=(hb3.cell (p:=⟨g,72,none⟩) hgl).trans cL;have hs3:w.heap.size+2≤w3.heap.size:=(by have:=ho3.o.2;simp at this;omega);clear cL))
 have hH3:Hs w3 (w.heap.size+1) l:=⟨op,H1.o,h2,H3.o,by rw [←Hu.o];exact hB3.o⟩
 have hH:=Hz hH3
 clear hH3 hB3 ho3 cL3 HB H3 H1 hi hz hz32
 refine (ending_any L w3 (by omega)).mono ?_
 rintro e w4 ⟨A,n,c,hn,rfl,hown,hb4⟩
 have hS4:=Hz (src_own (g:=w.heap.size+1) hown (by omega))
 have hb4':=hb3.trans (hb4.mono hb3.size)
 have hlen:=Hz (tail_len l.length)
 have hzl:=zs_lt l.length
 go_wp2_with fail
 refine (write_any (w.heap.size+1) A n c (tail l.length) l w4 (HT.o.below hb4' HT.o.1) (by omega) (hH.o.below hb4) (by rw [←HL.o];exact (HL.o▸hS4.o)) (tail_lt _) (by rw [hlen.o,←HL.o];rw [←HL.o] at hzl;omega)).mono ?_
 rintro e w5 ⟨rfl,hH5,hg5⟩
 have hR5:=Hz (show Blk w5 w.heap.size 200 (u8n (List.replicate 32 0)) from (hg5.block w.heap.size (by have:=hb4.size;omega) (by simp)).trans (hR3.o.below hb4))
 have hb5:=hb4'.grown hg5 hb4'.size (fun k hk=>by injection hk with hk;omega)
 obtain⟨op5,h15,_,_,hB5⟩:=hH5
 have hdig:Hid (dig l=bys (bk (l++tail l.length) ((l++tail l.length).length/64))):=Hz rfl
 have hok:=bk_ok (l++tail l.length) ((l++tail l.length).length/64)
 generalize bk (l++tail l.length) ((l++tail l.length).length/64)=u5 at *
 have HB5:=Hz hB5
 have h46:=Hz (show (Tryz.prog.info? 194).map (·.size)=some (wl u5).length by rw [Jy];exact Q5)
 have hby:=fun W=>Wl u5 W hok
 rw [←wl_ws,←hdig.o] at hby
 have hsz5:=hg5.size
 clear hB5 hg5 hown hn hR3
 go_wp2_with (first
  | (refine Qz rfl 194 (.tmp 16) rfl (w.heap.size+1) 0 rfl (wl u5) HB5.o (by rw [Jy];rfl) Tryz.underlying194 rfl h46.o ?_)
  | (go_at_call 161;refine (hby _).mono ?_;rintro e w6 ⟨rfl,hb6⟩)
  | (refine Qq rfl 200 (.tmp 2) (.tmp 18) rfl w.heap.size rfl (u8n (dig l)) rfl (hR5.o.below hb6) (by rw [Qv,Qv,Ul,List.length_replicate]) (by rw [Qv,Ul];exact K5) (u8n_one _) ?_;intro w7 hB7 ho7))
 exact Z4 Tryz.results114 rfl rfl hB7.o Tryz.underlying200 rfl (by rw [List.size_toArray,Qv,Ul];exact K5) ⟨rfl,ho7.o.below (hb5.trans (hb6.mono hb5.size)) (Mr _) (by have:=hb6.size;have:=hb5.size;omega)⟩
end ShaJ
namespace CrcA
open Kit CrcM
theorem and1 {y:Nat} (hy:y<4294967296):bits .and .u32 (y:Int) 1=((y%2:Nat):Int):=by
 have:=u32_and_nat y 1 hy (by decide)
 rw [nat_mask1] at this
 exact this
theorem xorP {y:Nat} (hy:y<4294967296):bits .xor .u32 ((y:Int)/2) 3988292384=((y/2^^^3988292384:Nat):Int):=by
 have:=u32_xor_nat (y/2) 3988292384 (by omega) (by decide)
 rw [←this]
 simp
theorem qxo {y:Nat} (hy:y<4294967296) (h:(bits .and .u32 (y:Int) 1==1)=true):bits .xor .u32 ((y:Int)/2) 3988292384=(stp y:Nat):=by
 rw [and1 hy] at h
 have h:y%2=1:=by simp at h;omega
 rw [xorP hy]
 unfold stp
 rw [if_pos h]
theorem qzi {y:Nat} (hy:y<4294967296) (h:(bits .and .u32 (y:Int) 1==1)=false):(y:Int)/2=(stp y:Nat):=by
 rw [and1 hy] at h
 have h : ¬y%2=1:=by simp at h;omega
 unfold stp
 rw [if_neg h]
 omega
theorem V1 {k:IntKind} {a b:Int} (h:a=b):Value.int k a=Value.int k b:=by rw [h]
theorem eight_any (x:Nat) (w:World) (hx:x<4294967296):Calls Tryz.prog 115 #[.int .u32 (x:Nat)] w fun e w'=>e=.returned (.int .u32 (s8 x:Nat))∧w=w':=by
 go_enter Tryz.func115,Tryz.ntmps115
 go_wp2
 go_loop [0,4] (fun s i=>∃k:Nat,k≤8∧i=.int .i64 k∧s=.int .u32 (it k x:Nat)) (fun _ i=>8-(intOf i).toNat)
 case atStart=>exact⟨0,by omega,rfl,rfl⟩
 case round=>
  obtain⟨k,hk,rfl,rfl⟩:=hrel
  have hy:=it_lt k hx
  have hs:Hid (it (k+1) x=stp (it k x)):=Hz rfl
  have h8:Hid (k=8→s8 x=it k x):=Hz fun h=>by rw [h];rfl
  generalize it k x=y at *
  by_cases hlt:k<8
  ·go_wp2
   all_goals
    go_round
    case rel=>exact⟨k+1,by omega,by go_num,V1 (by rw [hs.o];first|exact qxo hy ‹_› | exact qzi hy ‹_›)⟩
    case measure=>simp [intOf];omega
  ·go_wp2
   go_ret
   exact⟨Qg (by rw [h8.o (by omega)]),rfl⟩
theorem rem_odd {y:Nat} (h:((y:Int)%2==1)=true) (hy:y<4294967296):bits .xor .u32 ((y:Int)/2) 3988292384=(stp y:Nat):=by
 have h:y%2=1:=by simp at h;omega
 rw [xorP hy]
 unfold stp
 rw [if_pos h]
theorem qxp {y:Nat} (h:((y:Int)%2==1)=false):(y:Int)/2=(stp y:Nat):=by
 have h : ¬y%2=1:=by simp at h;omega
 unfold stp
 rw [if_neg h]
 omega
theorem xor32 {x y:Nat} (hx:x<4294967296) (hy:y<4294967296):bits .xor .u32 (x:Int) (y:Int)=((x^^^y:Nat):Int):=u32_xor_nat x y hx hy
theorem feed_any (x c:Nat) (w:World) (hx:x<4294967296) (hc:c<256):Calls Tryz.prog 220 #[.int .u32 (x:Nat),.int .u8 (c:Nat)] w fun e w'=>e=.returned (.int .u32 (fb x c:Nat))∧w=w':=by
 have hz:x^^^c<4294967296:=Nat.xor_lt_two_pow (n:=32) hx (by omega)
 have hxor:=xor32 hx (show c<4294967296 by omega)
 have hf:Hid (fb x c=s8 (x^^^c)):=Hz rfl
 generalize x^^^c=z at *
 go_enter Tryz.func220,Tryz.ntmps220
 go_wp2
 clear hxor
 go_loop [0,5] (fun s i=>∃k:Nat,k≤8∧i=.int .i64 k∧s=.int .u32 (it k z:Nat)) (fun _ i=>8-(intOf i).toNat)
 case atStart=>exact⟨0,by omega,rfl,rfl⟩
 case round=>
  obtain⟨k,hk,rfl,rfl⟩:=hrel
  have hy:=it_lt k hz
  have hs:Hid (it (k+1) z=stp (it k z)):=Hz rfl
  have h8:Hid (k=8→s8 z=it k z):=Hz fun h=>by rw [h];rfl
  generalize it k z=y at *
  by_cases hlt:k<8
  ·go_wp2
   all_goals
    go_round
    case rel=>exact⟨k+1,by omega,by go_num,V1 (by rw [hs.o];first|exact rem_odd ‹_› hy|exact qxp ‹_›)⟩
    case measure=>simp [intOf];omega
  ·go_wp2
   go_ret
   exact⟨Qg (by rw [hf.o,h8.o (by omega)]),rfl⟩
end CrcA
namespace CrcB
open Kit Byt CrcM CrcA
theorem rfd_any (A:Option Addr) (n c:Nat) (xs:List Nat) (x:Nat) (w:World) (hr:Rd w A n c (u8n xs)) (hb:∀c ∈ xs,c<256) (hx:x<4294967296) :
 Calls Tryz.prog 207 #[.int .u32 (x:Nat),.slice A n c] w fun e w'=>e=.returned (.int .u32 (fd x xs:Nat))∧w=w':=by
 obtain rfl:=Rd.nats hr
 have lx:xs.length≤9223372036854775807:=by have:=hr.le;have:=hr.cap;omega
 go_enter Tryz.func207,Tryz.ntmps207
 go_wp2
 go_loop [0,5] (fun s i=>∃k:Nat,k≤xs.length∧i=.int .i64 k∧s=.int .u32 (fd x (xs.take k):Nat)) (fun _ i=>xs.length-(intOf i).toNat)
 case atStart=>exact⟨0,Nat.zero_le _,rfl,by rw [List.take_zero,Hk]⟩
 case round=>
  obtain⟨k,hk,rfl,rfl⟩:=hrel
  have hy:fd x (xs.take k)<4294967296:=fd_lt hx fun c hc=>hb c (List.mem_of_mem_take hc)
  by_cases hlt:k<xs.length
  ·obtain⟨b,o,rfl,hc⟩:=Rd.nat hr hlt
   have hs:Hid (fd x (xs.take (k+1))=fb (fd x (xs.take k)) xs[k]):=Hz (by rw [Wu hlt,qjw])
   have hbk:=hb xs[k] (Me_ hlt)
   generalize fd x (xs.take k)=y at *
   go_wp2_with (go_at_call 220;refine (feed_any y xs[k] _ hy hbk).mono ?_;rintro e w' ⟨rfl,rfl⟩)
   go_round
   case rel=>exact⟨k+1,by omega,by go_num,by rw [hs.o]⟩
   case measure=>simp [intOf];omega
  ·have he:Hid (xs.take k=xs):=Hz (Mt (by omega))
   go_wp2
   go_ret
   exact⟨Qg (by rw [he.o]),rfl⟩
theorem qxq (A:Option Addr) (n c:Nat) (xs:List Nat) (w:World) (hr:Rd w A n c (u8n xs)) (hb:∀c ∈ xs,c<256) :
 Calls Tryz.prog 185 #[.slice A n c] w fun e w'=>e=.returned (.int .u32 (sm xs:Nat))∧w=w':=by
 have hs:Hid (sm xs=4294967295-fd 4294967295 xs):=Hz rfl
 have hl:=fd_lt (x:=4294967295) (by decide) hb
 have hF:=rfd_any A n c xs 4294967295 w hr hb (by decide)
 generalize fd 4294967295 xs=y at *
 have HF:=Hz hF
 clear hF
 go_enter Tryz.func185,Tryz.ntmps185
 go_wp2_with (go_at_call 207;refine (HF.o).mono ?_;rintro e w' ⟨rfl,rfl⟩)
 go_ret
 exact⟨Qg (by rw [hs.o];omega),rfl⟩
end CrcB
namespace CrcC
open CrcM CrcA
def row (k:Nat):List Value:=(List.range 256).map fun i:Nat=>Value.int .u32 ((if i<k then s8 i else 0:Nat):Int)
def Tb (w:World) (g k:Nat):Prop:=w.heap[g]?=some (.cells (row k).toArray 203 (0,0))
theorem row_set {k:Nat} (_h:k<256):(row k).set k (.int .u32 (s8 k:Nat))=row (k+1):=by
 apply List.ext_getElem
 ·simp [row]
 ·intro i h1 h2
  simp only [row,List.getElem_set,List.getElem_map,List.getElem_range]
  by_cases e:k=i
  ·subst e
   simp
  ·rw [if_neg e]
   congr 2
   by_cases h3:i<k
   ·rw [if_pos h3,if_pos (by omega)]
   ·rw [if_neg h3,if_neg (by omega)]
theorem Tb.cell {w:World} {g k i:Nat} (h:Tb w g k) (hi:i<256):w.cell? ⟨g,i,none⟩=some (.int .u32 ((if i<k then s8 i else 0:Nat):Int)):=by
 rw [cell_of_row w g i _ _ _ h]
 simp [row,hi]
theorem Tb.frozen {w:World} {g k:Nat} (h:Tb w g k) (i:Nat):w.frozen? ⟨g,i,none⟩=false:=frozen_of_row w g i _ _ h
theorem Tb.set {w:World} {g k:Nat} (h:Tb w g k) (hk:k<256):Tb (w.setCell ⟨g,k,none⟩ (.int .u32 (s8 k:Nat))) g (k+1):=by
 unfold Tb
 rw [heap_setCell_same w g k _ _ _ h,List.setIfInBounds_toArray,row_set hk]
theorem qq3 (w:World):(zeroValue 203).run Tryz.prog w=.ok (.agg (row 0).toArray) w:=by kernel_rfl
theorem Wj (w:World):Calls Tryz.prog 74 #[] w fun e w'=>e=.returned (.pointer (some ⟨w.heap.size,0,none⟩))∧Tb w' w.heap.size 256∧Bw w w'∧w'.heap.size=w.heap.size+1:=by
 have hz:=qq3
 have H0:Hid (∀Z:Array Value,Z=(row 0).toArray→Tb (w.alloc (.cells Z 203)) w.heap.size 0):=Hz fun Z h=>by rw [h];exact heap_alloc_new w _
 have hb0:Bw w (w.alloc (.cells (row 0).toArray 203)):=(Mb _ _).alloc (Mr _) _
 generalize hZ:(row 0).toArray=Z at *
 have H0:=Hz (H0.o Z rfl)
 go_enter Tryz.func74,Tryz.ntmps74
 go_wp2
 clear hz hZ
 go_loopw [4,2] (fun i _ wr=>∃k:Nat,k≤256∧i=.int .i64 k∧Hid (Tb wr w.heap.size k)∧Bw w wr∧Hid (wr.heap.size=w.heap.size+1)) (fun i _ _=>256-(intOf i).toNat)
 case atStart=>exact⟨0,by omega,rfl,H0,hb0,Hz (by simp)⟩
 case round=>
  obtain⟨k,hk,rfl,hT,hb,hs⟩:=hrel
  clear hb0 H0
  by_cases hlt:k<256
  ·have hc:=Tb.cell hT.o hlt
   have hf:=Tb.frozen hT.o k
   go_wp2
   have h32:IntKind.u32.wrap (k:Int)=(k:Int):=by rw [IntKind.wrap_u32];omega
   go_still_tail 7,(by kernel_rfl)
   refine wpStill_step (fun K hK=>?_)
   go_simp
   refine⟨_,(eight_any k _ (by omega)).mono (fun e w' h=>⟨h.1,h.2.symm⟩),hK _ ?_⟩
   clear hK K
   repeat still_step
   refine wpStill_nil ?_
   change wpList _ _ _ _ _ wr.drew
   have hc':=hc
   have hf':=hf
   have hT':Hid (Tb (wr.drew.setCell ⟨w.heap.size,k,none⟩ (.int .u32 (s8 k:Nat))) w.heap.size (k+1)):=Hz (Tb.set (w:=wr.drew) hT.o hlt)
   have hb':Hid (Bw w (wr.drew.setCell ⟨w.heap.size,k,none⟩ (.int .u32 (s8 k:Nat)))):=Hz ((below_drewN hb 1).setCell (by simp) _)
   generalize s8 k=z at *
   clear hc hf
   go_wp2
   go_roundw
   case rel=>exact⟨k+1,by omega,by go_num,hT',hb'.o,Hz (by simpa using hs.o)⟩
   case measure=>simp [intOf];omega
  ·go_wp2
   go_ret
   obtain rfl:k=256:=by omega
   exact⟨rfl,hT.o,hb,hs.o⟩
end CrcC
namespace CrcD
open Kit Byt CrcM CrcA CrcC
theorem Tb.at_ {w:World} {g i:Nat} (h:Tb w g 256) (hi:i<256):w.cell? ⟨g,i,none⟩=some (.int .u32 (s8 i:Nat)):=by
 rw [Tb.cell h hi,if_pos hi]
theorem Tb.below {w w':World} {g k:Nat} (h:Tb w g k) (hb:Bw w w'):Tb w' g k:=by
 have:=hb.block g (lt_of_block h)
 unfold Tb at *
 rw [this,h]
theorem low8 (x c:Nat) (hc:c<256):bits .xor .u8 ((x:Int)%256) (c:Int)=((x%256^^^c:Nat):Int):=by
 have:=u8_xor_nat (x%256) c (by omega) hc
 rw [←this]
 simp
theorem next_any (g x c:Nat) (w:World) (hT:Tb w g 256) (hx:x<4294967296) (hc:c<256):Calls Tryz.prog 193 #[.pointer (some ⟨g,0,none⟩),.int .u32 (x:Nat),.int .u8 (c:Nat)] w fun e w'=>e=.returned (.int .u32 (fb x c:Nat))∧w=w':=by
 have hf:Hid (fb x c=s8 (x%256^^^c)^^^x/256):=Hz (fb_table hc)
 have hi:(x%256^^^c)<256:=Nat.xor_lt_two_pow (n:=8) (by omega) hc
 have hl:=low8 x c hc
 have hcell:=Tb.at_ hT hi
 have hs:=s8_lt (x:=x%256^^^c) (by omega)
 have hxor:=xor32 (x:=s8 (x%256^^^c)) (y:=x/256) hs (by omega)
 have hd:((x/256:Nat):Int)=(x:Int)/256:=by simp
 rw [hd] at hxor
 clear hd
 generalize s8 (x%256^^^c)=y at *
 generalize x%256^^^c=i at *
 go_enter Tryz.func193,Tryz.ntmps193
 go_wp2
 go_ret
 exact⟨Qg (by rw [hf.o]),rfl⟩
theorem through_any (g:Nat) (A:Option Addr) (n c:Nat) (xs:List Nat) (x:Nat) (w:World) (hT:Tb w g 256) (hr:Rd w A n c (u8n xs)) (hb:∀c ∈ xs,c<256) (hx:x<4294967296) :
 Calls Tryz.prog 192 #[.func (.func 193) #[.pointer (some ⟨g,0,none⟩)] #[],.int .u32 (x:Nat),.slice A n c] w fun e w'=>e=.returned (.int .u32 (fd x xs:Nat))∧w=w':=by
 obtain rfl:=Rd.nats hr
 have lx:xs.length≤9223372036854775807:=by have:=hr.le;have:=hr.cap;omega
 have HT:=Hz hT
 clear hT
 go_enter Tryz.func192,Tryz.ntmps192
 go_wp2
 go_loop [1,11,8] (fun s i _=>∃k:Nat,k≤xs.length∧i=.int .i64 k∧s=.int .u32 (fd x (xs.take k):Nat)) (fun _ i _=>xs.length-(intOf i).toNat)
 case atStart=>exact⟨0,Nat.zero_le _,rfl,by rw [List.take_zero,Hk]⟩
 case round=>
  obtain⟨k,hk,rfl,rfl⟩:=hrel
  have hy:fd x (xs.take k)<4294967296:=fd_lt hx fun c hc=>hb c (List.mem_of_mem_take hc)
  by_cases hlt:k<xs.length
  ·obtain⟨b,o,rfl,hc⟩:=Rd.nat hr hlt
   have hs:Hid (fd x (xs.take (k+1))=fb (fd x (xs.take k)) xs[k]):=Hz (by rw [Wu hlt,qjw])
   have hbk:=hb xs[k] (Me_ hlt)
   generalize fd x (xs.take k)=y at *
   go_wp2_with (go_at_call 193;refine (next_any g y xs[k] _ HT.o hy hbk).mono ?_;rintro e w' ⟨rfl,rfl⟩)
   go_round
   case rel=>exact⟨k+1,by omega,by go_num,by rw [hs.o]⟩
   case measure=>simp [intOf];omega
  ·have he:Hid (xs.take k=xs):=Hz (Mt (by omega))
   go_wp2
   go_ret
   exact⟨Qg (by rw [he.o]),rfl⟩
theorem Y7 (fn:Fn) (first cap:Array Value) (w:World):(Instr.makeFunc fn first cap).run Tryz.prog w=.ok (.func fn first cap) w:=rfl
theorem feed_there (g:Nat) (A:Option Addr) (n c:Nat) (xs:List Nat) (x:Nat) (w:World) (hT:Tb w g 256) (hr:Rd w A n c (u8n xs)) (hb:∀c ∈ xs,c<256) (hx:x<4294967296) :
 Calls Tryz.prog 163 #[.pointer (some ⟨g,0,none⟩),.int .u32 (x:Nat),.slice A n c] w fun e w'=>e=.returned (.int .u32 (fd x xs:Nat))∧w=w':=by
 have HT:=Hz hT
 clear hT
 have hmf:=Y7
 go_enter Tryz.func163,Tryz.ntmps163
 go_wp2_with (go_at_call 192;refine (through_any g A n c xs x _ HT.o hr hb hx).mono ?_;rintro e w' ⟨rfl,rfl⟩)
 go_ret
 exact⟨rfl,rfl⟩
theorem begin_any (w:World):Calls Tryz.prog 164 #[] w fun e w'=>e=.returned (.int .u32 4294967295)∧w=w':=by
 go_enter Tryz.func164,Tryz.ntmps164
 go_wp2
 go_ret
 exact⟨rfl,rfl⟩
theorem not32 (x:Nat) (hx:x<4294967296):4294967295^^^x=4294967295-x:=by
 have h:(BitVec.allOnes 32^^^BitVec.ofNat 32 x) = ~~~ BitVec.ofNat 32 x:=by rw [BitVec.xor_comm,BitVec.xor_allOnes]
 have h2:=congrArg BitVec.toNat h
 rw [BitVec.toNat_xor,BitVec.toNat_not,BitVec.toNat_allOnes,BitVec.toNat_ofNat,Nat.mod_eq_of_lt (by omega)] at h2
 exact h2
theorem max32:IntKind.u32.max=4294967295:=by kernel_rfl
theorem not_any {x:Nat} (hx:x<4294967296):bits .xor .u32 IntKind.u32.max (x:Int)=((4294967295-x:Nat):Int):=by
 rw [max32]
 have h:=xor32 (x:=4294967295) (y:=x) (by decide) hx
 rw [not32 x hx] at h
 exact h
theorem end_any (x:Nat) (w:World) (hx:x<4294967296):Calls Tryz.prog 162 #[.int .u32 (x:Nat)] w fun e w'=>e=.returned (.int .u32 (4294967295-x:Nat))∧w=w':=by
 go_enter Tryz.func162,Tryz.ntmps162
 go_wp2
 all_goals first
  | (go_ret;exact⟨Qg (not_any hx),rfl⟩)
  | (exfalso;have h:IntKind.u32.signed=true:=by assumption
     cases h)
theorem Tx (g:Nat) (A:Option Addr) (n c:Nat) (xs:List Nat) (w:World) (hT:Tb w g 256) (hr:Rd w A n c (u8n xs)) (hb:∀c ∈ xs,c<256) :
 Calls Tryz.prog 116 #[.pointer (some ⟨g,0,none⟩),.slice A n c] w fun e w'=>e=.returned (.int .u32 (sm xs:Nat))∧w=w':=by
 have hs:Hid (sm xs=4294967295-fd 4294967295 xs):=Hz rfl
 have hl:=fd_lt (x:=4294967295) (by decide) hb
 have HF:=Hz (feed_there g A n c xs 4294967295 w hT hr hb (by decide))
 clear hT
 generalize fd 4294967295 xs=y at *
 go_enter Tryz.func116,Tryz.ntmps116
 go_wp2_with (first
  | (go_at_call 164;refine (begin_any _).mono ?_;rintro e w' ⟨rfl,rfl⟩)
  | (go_at_call 163;refine (HF.o).mono ?_;rintro e w' ⟨rfl,rfl⟩)
  | (go_at_call 162;refine (end_any y _ hl).mono ?_;rintro e w' ⟨rfl,rfl⟩))
 go_ret
 exact⟨Qg (by rw [hs.o]),rfl⟩
theorem Rd.cells (w:World) (xs:List Nat) (e:TypeId) {m:Nat×Nat} {n:Nat} (hn:xs.length=n) (h63:n≤9223372036854775807):Rd (w.alloc (.cells (u8n xs).toArray e m)) (some ⟨w.heap.size,0,none⟩) n n (u8n xs):=by
 refine⟨by rw [Qv,hn],by omega,by omega,fun _=>⟨_,_,rfl,by simp,fun j u hu=>?_⟩⟩
 rw [Nat.zero_add,World.cell?_alloc_mark]
 simpa using hu
end CrcD
namespace NumE
open Kit NumA NumB
def txt (ts:List Int):List Int:=putb (min ts.length 65535:Nat) 2++ts.take 65535
theorem Vt (xs:List Int) (k:Nat):(u8s xs).take k=u8s (xs.take k):=by simp [u8s]
theorem Uz (xs ys:List Int):u8s xs++u8s ys=u8s (xs++ys):=by simp [u8s]
theorem Ug:wd 2=2:=rfl
theorem Z7 {w w':World} {xs ys:List Int} {A:Option Addr} {n c:Nat} (h:w'.ownsRow w.heap.size 5 1 (.slice A n c) n (u8s xs)) (hb:Bw w w') (he:xs=ys):Fresh w ys (.returned (.slice A n c)) w':=by
 subst he
 exact Fresh.of h hb
theorem K8 (A:Option Addr) (n c:Nat) (xs:List Int) (B:Option Addr) (m d:Nat) (ts:List Int) (w:World) (hx:Rd w A n c (u8s xs)) (ht:Rd w B m d (u8s ts)) (hl:n≤100000000000000) :
 Calls Tryz.prog 33 #[.slice A n c,.slice B m d] w fun e w'=>Fresh w (xs++txt ts) e w':=by
 obtain⟨i0,hi0,hz0,hz1,hz2⟩:=info_parts info8
 have t1:=ht.le
 have t2:=ht.cap
 have HL:Hid (ts.length=m):=Rd.bytes ht
 have HX:Hid (xs.length=n):=Rd.bytes hx
 by_cases hs:m≤65535
 ·go_enter Tryz.func33,Tryz.ntmps33
  go_wp2_with (first
   | (go_at_call 31;refine (put_any A n c xs m 2 _ hx (by omega)).mono ?_;rintro e w1 ⟨A1,n1,c1,hn1,rfl,hown1,hb1⟩;have hn2:n1≤n+2:=by have:=hn1.o;rw [this];simp [Jg,Ug,HX.o])
   | (at_builtin;refine Qu _ rfl (.tmp 13) (.tmp 14) _ rfl w.heap.size 5 i0 _ 1 Tryz.underlying38 hi0 hz0 hz1 hz2 rfl _ n1 (u8s (xs++putb m 2)) rfl hown1 B m d (u8s ts) rfl (ht.below hb1) (u8s_one _) (by omega) (by omega) hb1.size ?_;intro A2 n2 c2 w2 hn3 hown2 hg2 hat2))
  go_ret
  refine Z7 (xs:=xs++putb m 2++ts) (by rw [←Uz];exact hown2) (below_add hb1 hown1 (Mr _) hg2) ?_
  obtain rfl:=HL.o
  rw [txt,Mt hs,Nat.min_eq_left hs,List.append_assoc]
 ·go_enter Tryz.func33,Tryz.ntmps33
  go_wp2_with (first
   | (go_at_call 31;refine (put_any A n c xs 65535 2 _ hx (by omega)).mono ?_;rintro e w1 ⟨A1,n1,c1,hn1,rfl,hown1,hb1⟩;have hn2:n1≤n+2:=by have:=hn1.o;rw [this];simp [Jg,Ug,HX.o])
   | (at_builtin;refine Qu _ rfl (.tmp 13) (.tmp 14) _ rfl w.heap.size 5 i0 _ 1 Tryz.underlying38 hi0 hz0 hz1 hz2 rfl _ n1 (u8s (xs++putb 65535 2)) rfl hown1 B 65535 d ((u8s ts).take 65535) rfl ((ht.take (by omega)).below hb1) (by rw [Vt];exact u8s_one _) (by omega) (by omega) hb1.size ?_;intro A2 n2 c2 w2 hn3 hown2 hg2 hat2))
  go_ret
  refine Z7 (xs:=xs++putb 65535 2++ts.take 65535) (by rw [←Uz,←Vt];exact hown2) (below_add hb1 hown1 (Mr _) hg2) ?_
  obtain rfl:=HL.o
  rw [txt,Nat.min_eq_right (by omega),List.append_assoc]
  rfl
theorem be_zero (k:Nat):be k 0=List.replicate k 0:=by
 apply List.ext_getElem
 ·simp [Wy]
 ·intro i h1 h2
  simp [be]
def Part (k:Nat) (q:Int) (m:Nat) (cs:List Int):Prop:=cs.length=k∧∀j,(h:j<cs.length)→cs[j]=if m≤j then q/2 ^ (8*(k-1-j))%256 else 0
theorem r_next {k m r:Nat} {n:Int} (hm:m≤k) (h0:1≤m) (hr:(r:Int)=n/2 ^ (8*(k-m))):((r/256:Nat):Int)=n/2 ^ (8*(k-(m-1))):=by
 have e:8*(k-(m-1))=8*(k-m)+8:=by omega
 rw [e,Int.pow_add,←Int.ediv_ediv_of_nonneg (by exact Int.le_of_lt (Int.pow_pos (by omega))),←hr]
 simp
theorem Part.next {k m r:Nat} {n:Int} {cs:List Int} (h:Part k n m cs) (h0:1≤m) (hm:m≤k) (hr:(r:Int)=n/2 ^ (8*(k-m))):Part k n (m-1) (cs.set (m-1) ((r:Int)%256)):=by
 refine⟨by rw [List.length_set];exact h.1,fun j hj=>?_⟩
 rw [List.getElem_set]
 by_cases e:m-1=j
 ·subst e
  rw [if_pos rfl,if_pos (Mr _),hr]
  congr 3
  omega
 ·rw [if_neg e,h.2 j (by simpa using hj)]
  by_cases h1:m≤j
  ·rw [if_pos h1,if_pos (by omega)]
  ·rw [if_neg h1,if_neg (by omega)]
theorem Part.all {k:Nat} {n:Int} {cs:List Int} (h:Part k n 0 cs) (hn:0≤n):cs=be k n.toNat:=by
 apply List.ext_getElem
 ·rw [h.1,Wy]
 ·intro i h1 h2
  rw [h.2 i h1,if_pos (Nat.zero_le _)]
  simp only [be,List.getElem_map,List.getElem_range]
  rw [Int.natCast_emod,Int.natCast_ediv,ipow,Int.toNat_of_nonneg hn]
  rfl
theorem Part.done {k:Nat} {n:Int} {cs:List Int} (h:Part k n 0 cs) (hn:0≤n) (hr:((0:Nat):Int)=n/2 ^ (8*(k-0))):cs=be k (cl k n):=by
 rw [Part.all h hn]
 congr 1
 unfold cl
 have p:=V9 k
 rw [Nat.sub_zero,←ipow] at hr
 have:n<((2 ^ (8*k):Nat):Int):=by
  have:=Int.lt_mul_of_ediv_lt (a:=n) (b:=1) (c:=((2 ^ (8*k):Nat):Int)) (by omega) (by omega)
  omega
 omega
def Top (k j:Nat) (cs:List Int):Prop:=cs.length=k∧∀i,(h:i<cs.length)→i<j→cs[i]=255
theorem Top.next {k j:Nat} {cs:List Int} (h:Top k j cs):Top k (j+1) (cs.set j 255):=by
 refine⟨by rw [List.length_set];exact h.1,fun i hi hij=>?_⟩
 rw [List.getElem_set]
 by_cases e:j=i
 ·rw [if_pos e]
 ·rw [if_neg e]
  exact h.2 i (by simpa using hi) (by omega)
theorem be_top {k:Nat} (h:k≤6):be k (2 ^ (8*k)-1)=List.replicate k 255:=by
 match k,h with
 | 0,_=>rfl
 | 1,_=>rfl
 | 2,_=>rfl
 | 3,_=>rfl
 | 4,_=>rfl
 | 5,_=>rfl
 | 6,_=>rfl
theorem Top.done {k r:Nat} {n:Int} {cs:List Int} (h:Top k k cs) (hk:k≤6) (h0:0<r) (hr:(r:Int)=n/2 ^ (8*(k-0))):cs=be k (cl k n):=by
 have p:=V9 k
 have e:cl k n=2 ^ (8*k)-1:=by
  unfold cl
  rw [Nat.sub_zero,←ipow] at hr
  have:((2 ^ (8*k):Nat):Int)≤n:=by
   rcases Int.lt_or_le n ((2 ^ (8*k):Nat):Int) with h1|h1
   ·have h2:n/((2 ^ (8*k):Nat):Int)<1:=Int.ediv_lt_of_lt_mul (by omega) (by omega)
    omega
   ·exact h1
  omega
 rw [e,be_top hk]
 apply List.ext_getElem
 ·simpa using h.1
 ·intro i h1 h2
  rw [h.2 i h1 (by have:=h.1;omega)]
  simp
theorem rput_any (n x:Int) (w:World) (hq2:n≤9223372036854775807) :
 Calls Tryz.prog 184 #[.int .i64 n,.int .i64 x] w fun e w'=>Fresh w (putb n x) e w':=by
 obtain⟨i0,hi0,hz0,hz1,hz2⟩:=info_parts info8
 have w1:=qw3 x
 have w2:=wd_le x
 by_cases hn:n<0
 ·go_enter Tryz.func184,Tryz.ntmps184
  go_wp2_with (first
   | (go_at_call 206;refine (Width_any _ _).mono ?_;rintro e w' ⟨rfl,rfl⟩)
   | (at_make;refine Qx _ rfl _ _ _ rfl 5 i0 _ 1 Tryz.underlying38 hi0 hz0 hz1 hz2 rfl _ _ _ _ (wd x) (wd x) rfl rfl (by omega) (by omega) (by omega) (by omega) (by omega) ?_;intro w1' H1 hb1 hs1))
  go_ret
  refine Z7 (xs:=List.replicate (wd x) 0) ?_ hb1 ?_
  ·have h:=Qh (base:=w.heap.size) (n:=wd x) H1.o (Mr _) (by simp) (by simp;omega)
   rw [List.length_replicate] at h
   simpa using h
  ·have:cl (wd x) n=0:=by unfold cl;omega
   rw [putb,this,be_zero]
 ·go_enter Tryz.func184,Tryz.ntmps184
  go_wp2_with (first
   | (go_at_call 206;refine (Width_any _ _).mono ?_;rintro e w' ⟨rfl,rfl⟩)
   | (at_make;refine Qx _ rfl _ _ _ rfl 5 i0 _ 1 Tryz.underlying38 hi0 hz0 hz1 hz2 rfl _ _ _ _ (wd x) (wd x) rfl rfl (by omega) (by omega) (by omega) (by omega) (by omega) ?_;intro w1' H1 hb1 hs1))
  have hq:0≤n:=by omega
  have B0:Blk8 w1' w.heap.size (List.replicate (wd x) 0):=by
   have h:=H1.o
   unfold Blk8
   rw [h]
   simp [u8s]
  have P0:Part (wd x) n (wd x) (List.replicate (wd x) 0):=by
   refine⟨by simp,fun j h=>?_⟩
   simp at h
   rw [if_neg (by omega)]
   simp
  clear H1 hs1
  go_loopw [0,6] (fun q i wr=>∃m r:Nat,∃cs,m≤wd x∧i=.int .i64 ((m:Int)-1)∧q=.int .i64 r∧Hid ((r:Int)=n/2 ^ (8*(wd x-m)))∧r≤9223372036854775807∧Hid (Blk8 wr w.heap.size cs)∧Part (wd x) n m cs∧Bw w wr)
   (fun _ i _=>((intOf i)+1).toNat)
  case atStart=>exact⟨wd x,n.toNat,_,Mr _,rfl,V1 (by omega),(show _=_ by simp;omega),by omega,B0,P0,hb1⟩
  case round=>
   obtain⟨m,r,cs,hm,rfl,rfl,hr,hr2,hB,hP,hb⟩:=hrel
   by_cases h0:1≤m
   ·have hlen:cs.length=wd x:=hP.1
    have hc:=Blk8.cell hB.o (i:=m-1) (by omega)
    have hf:=Blk8.frozen hB.o (m-1)
    go_wp2
    go_roundw
    case rel=>
     refine⟨m-1,r/256,cs.set (m-1) ((r:Int)%256),by omega,V1 (by omega),V1 (by omega),?_,by omega,Blk8.set hB.o _ _,?_,?_⟩
     ·exact r_next (by omega) h0 hr.o
     ·exact Part.next hP h0 hm hr.o
     ·exact hb.setCell (Mr _) _
    case measure=>simp [intOf];omega
   ·obtain rfl:m=0:=by omega
    have hlen:cs.length=wd x:=hP.1
    by_cases hr0:0<r
    ·go_wp2_with fail
     obtain⟨wo,hwo⟩:∃wo:World,wo=wr:=⟨_,rfl⟩
     obtain rfl:=hwo
     go_loopw [7] (fun i wr=>∃j:Nat,∃cs,j≤wd x∧i=.int .i64 j∧Hid (Blk8 wr w.heap.size cs)∧Top (wd x) j cs∧Bw w wr)
      (fun i _=>wd x-(intOf i).toNat)
     case atStart=>exact⟨0,cs,Nat.zero_le _,rfl,hB,⟨hlen,fun i hi h=>absurd h (by omega)⟩,hb⟩
     case round=>
      obtain⟨j,ds,hj,rfl,hB2,hT,hb2⟩:=hrel
      by_cases hlt:j<wd x
      ·have hl2:ds.length=wd x:=hT.1
       have hc:=Blk8.cell hB2.o (i:=j) (by omega)
       have hf:=Blk8.frozen hB2.o j
       go_wp2
       go_roundw
       case rel=>
        exact⟨j+1,ds.set j 255,by omega,by go_num,Blk8.set hB2.o _ _,Top.next hT,hb2.setCell (Mr _) _⟩
       case measure=>simp [intOf];omega
      ·obtain rfl:j=wd x:=by omega
       go_wp2
       go_ret
       exact Z7 (xs:=ds) (Blk8.own hB2.o (Mr _) (by have:=hT.1;omega) hT.1) hb2 (Top.done hT w2 hr0 hr.o)
    ·go_wp2_with fail
     go_ret
     refine Z7 (xs:=cs) (Blk8.own hB.o (Mr _) (by omega) hlen) hb ?_
     obtain rfl:r=0:=by omega
     exact Part.done hP hq hr.o
end NumE
namespace TabR
open Kit NumA NumB
theorem Vt (xs:List Int) (k:Nat):(u8s xs).take k=u8s (xs.take k):=by simp [u8s]
theorem stay_any (v:Value) (x:Int) (w:World):Calls Tryz.prog 214 #[v,.int .i64 x] w fun e w'=>e=.returned (.slice none 0 0)∧w=w':=by
 go_enter Tryz.func214,Tryz.ntmps214
 go_wp2
 go_ret
 exact⟨rfl,rfl⟩
theorem eqnil (w:World) (a:Option Addr) (n c n' c':Nat):(binOp .eql 38 (.slice a n c) (.slice none n' c')).run Tryz.prog w=.ok (.bool a.isNone) w:=
 Lib.run_eql_slice_nil w _ _ a n c n' c' Tryz.underlying38
theorem Ug:wd 2=2:=rfl
def St (w:World) (b:Nat) (xs:List Int) (e:Int):Prop:=
 ∃A n c,w.heap[b]?=some (.cells #[.slice A n c,.int .i64 e] 264 (0,0))∧Rd w A n c (u8s xs)∧(A=none∨∃g o,A=some ⟨g,o,none⟩∧g<b)
theorem two0 {w:World} {b:Nat} {u v:Value} {t:TypeId} (h:w.heap[b]?=some (.cells #[u,v] t (0,0))):w.cell? ⟨b,0,none⟩=some u:=by rw [cell_of_row _ _ _ _ _ _ h];rfl
theorem two1 {w:World} {b:Nat} {u v:Value} {t:TypeId} (h:w.heap[b]?=some (.cells #[u,v] t (0,0))):w.cell? ⟨b,1,none⟩=some v:=by rw [cell_of_row _ _ _ _ _ _ h];rfl
theorem ended_no (b:Nat) (A:Option Addr) (n c:Nat) (w:World) (h:w.heap[b]?=some (.cells #[.slice A n c,.int .i64 0] 264 (0,0))) :
 Calls Tryz.prog 213 #[.pointer (some ⟨b,0,none⟩)] w fun e w'=>e=.returned (.bool false)∧w=w':=by
 have h1:=two1 h
 clear h
 go_enter Tryz.func213,Tryz.ntmps213
 go_wp2
 go_ret
 exact⟨rfl,rfl⟩
theorem ended_yes (b:Nat) (A:Option Addr) (n c:Nat) (e:Int) (w:World) (h:w.heap[b]?=some (.cells #[.slice A n c,.int .i64 e] 264 (0,0))) (he:(e != 0)=true) :
 Calls Tryz.prog 213 #[.pointer (some ⟨b,0,none⟩)] w fun e w'=>e=.returned (.bool true)∧w=w':=by
 have h1:=two1 h
 clear h
 go_enter Tryz.func213,Tryz.ntmps213
 go_wp2
 go_ret
 exact⟨rfl,rfl⟩
theorem next_no (b:Nat) (A:Option Addr) (n c:Nat) (w:World) (h:w.heap[b]?=some (.cells #[.slice A n c,.int .i64 0] 264 (0,0))) :
 Calls Tryz.prog 195 #[.pointer (some ⟨b,0,none⟩)] w fun e w'=>e=.returned (.func (.func 215) #[.pointer (some ⟨b,0,none⟩)] #[])∧w=w':=by
 have H:Hid (w.heap[b]?=some (.cells #[.slice A n c,.int .i64 0] 264 (0,0))):=h
 clear h
 go_enter Tryz.func195,Tryz.ntmps195
 go_wp2_with (go_at_call 213;refine (ended_no _ _ _ _ _ H.o).mono ?_;rintro e w' ⟨rfl,rfl⟩)
 go_ret
 exact⟨rfl,rfl⟩
theorem next_yes (b:Nat) (A:Option Addr) (n c:Nat) (e:Int) (w:World) (h:w.heap[b]?=some (.cells #[.slice A n c,.int .i64 e] 264 (0,0))) (he:(e != 0)=true) :
 Calls Tryz.prog 195 #[.pointer (some ⟨b,0,none⟩)] w fun e w'=>e=.returned (.func (.func 214) #[.pointer (some ⟨b,0,none⟩)] #[])∧w=w':=by
 have H:Hid (w.heap[b]?=some (.cells #[.slice A n c,.int .i64 e] 264 (0,0))):=h
 clear h
 go_enter Tryz.func195,Tryz.ntmps195
 go_wp2_with (go_at_call 213;refine (ended_yes _ _ _ _ _ _ H.o he).mono ?_;rintro e w' ⟨rfl,rfl⟩)
 go_ret
 exact⟨rfl,rfl⟩
theorem fail_no (b:Nat) (A:Option Addr) (n c:Nat) (x:Int) (w:World) (h:w.heap[b]?=some (.cells #[.slice A n c,.int .i64 0] 264 (0,0))) :
 Calls Tryz.prog 196 #[.pointer (some ⟨b,0,none⟩),.int .i64 x] w fun e w'=>e=.returned (.tuple #[])∧w.setCell ⟨b,1,none⟩ (.int .i64 x)=w':=by
 have H:Hid (w.heap[b]?=some (.cells #[.slice A n c,.int .i64 0] 264 (0,0))):=h
 have h1:=two1 h
 have hf:=frozen_of_row _ _ 1 _ _ h
 clear h
 go_enter Tryz.func196,Tryz.ntmps196
 go_wp2_with (go_at_call 213;refine (ended_no _ _ _ _ _ H.o).mono ?_;rintro e w' ⟨rfl,rfl⟩)
 go_end0
 exact⟨rfl,rfl⟩
theorem did_set (w:World) (b i:Nat) (v:Value):w.grownBy (w.setCell ⟨b,i,none⟩ v) (some b):=
 ⟨(Mb 0 w |>.setCell (p:=⟨b,i,none⟩) (Nat.zero_le _) v).os,(Mb 0 w |>.setCell (p:=⟨b,i,none⟩) (Nat.zero_le _) v).tape,(Mb 0 w |>.setCell (p:=⟨b,i,none⟩) (Nat.zero_le _) v).output,
  (Mb 0 w |>.setCell (p:=⟨b,i,none⟩) (Nat.zero_le _) v).size,fun k _ hk=>heap_setCell_other w _ k v (fun e=>hk (by rw [e]))⟩
theorem Vu {w w1 w2:World} {row:Option Nat} (h:w.grownBy w1 row) (h':w1.grownBy w2 row):w.grownBy w2 row:=
 ⟨h'.os.trans h.os,h'.tape.trans h.tape,h'.output.trans h.output,Ml h.size h'.size,fun k hk hn=>(h'.block k (Mw hk h.size) hn).trans (h.block k hk hn)⟩
theorem did_below {w w':World} (h:Bw w w') (row:Option Nat):w.grownBy w' row:=⟨h.os,h.tape,h.output,h.size,fun k hk _=>h.block k hk⟩
theorem Rd.far {w:World} {A:Option Addr} {n c b i:Nat} {xs:List Value} (h:Rd w A n c xs) (hA:A=none∨∃g o,A=some ⟨g,o,none⟩∧g<b) (v:Value):Rd (w.setCell ⟨b,i,none⟩ v) A n c xs:=
 h.grown (did_set w b i v) fun g hg b' o' hA'=>by
  injection hg with hg
  subst hg
  rcases hA with rfl|⟨g',o'',rfl,hne⟩
  ·cases hA'
  ·injection hA' with hA'
   injection hA' with h1
   omega
theorem St.left {w:World} {b:Nat} {A A':Option Addr} {n c n' c':Nat} {e:Int} {ys:List Int} (h:w.heap[b]?=some (.cells #[.slice A n c,.int .i64 e] 264 (0,0))) (hr:Rd w A' n' c' (u8s ys)) (hA:A'=none∨∃g o,A'=some ⟨g,o,none⟩∧g<b) :
 St (w.setCell ⟨b,0,none⟩ (.slice A' n' c')) b ys e:=
 ⟨A',n',c',by rw [heap_setCell_same w b 0 _ _ _ h];rfl,Rd.far hr hA _,hA⟩
theorem St.fault {w:World} {b:Nat} {xs:List Int} {e:Int} (h:St w b xs e) (x:Int):St (w.setCell ⟨b,1,none⟩ (.int .i64 x)) b xs x:=by
 obtain⟨A,n,c,h,hr,hA⟩:=h
 exact⟨A,n,c,by rw [heap_setCell_same w b 1 _ _ _ h];rfl,Rd.far hr hA _,hA⟩
theorem Rd.drop {w:World} {g o n c:Nat} {xs:List Value} (h:Rd w (some ⟨g,o,none⟩) n c xs) {k:Nat} (hk:k≤n):Rd w (some ⟨g,o+k,none⟩) (n-k) (c-k) (xs.drop k):=
 ⟨by have:=h.1;simp;omega,by have:=h.2.1;omega,by have:=h.2.2.1;omega,fun hp=>by
  obtain⟨b,o',hA,hb,hj⟩:=h.2.2.2 (by omega)
  simp only [Option.some.injEq,Addr.mk.injEq,and_true] at hA
  obtain⟨rfl,rfl⟩:=hA
  exact⟨g,o+k,rfl,hb,fun j u hu=>by
   rw [List.getElem?_drop] at hu
   rw [Nat.add_assoc]
   exact hj (k+j) u hu⟩⟩
def Cut (w:World) (b:Nat) (ys xs:List Int) (x:Int) (e:Ending) (w':World):Prop:=
 ∃A n c,e=.returned (.slice A n c)∧Rd w' A n c (u8s ys)∧St w' b xs x∧w.grownBy w' (some b)
theorem qxr (xs:List Int) (k:Nat):(u8s xs).drop k=u8s (xs.drop k):=by simp [u8s]
theorem goOn_ok (b k:Nat) (xs:List Int) (w:World) (h:St w b xs 0) (hk:k≤xs.length) :
 Calls Tryz.prog 215 #[.pointer (some ⟨b,0,none⟩),.int .i64 k] w (Cut w b (xs.take k) (xs.drop k) 0):=by
 obtain⟨A,n,c,h,hr,hA⟩:=h
 have hl:=Rd.bytes hr
 have hn:=hr.le
 have hc:=hr.cap
 have H:Hid (w.heap[b]?=some (.cells #[.slice A n c,.int .i64 0] 264 (0,0))):=h
 have h0:=two0 h
 have hf:=frozen_of_row _ _ 0 _ _ h
 clear h
 have hk':k≤n:=by omega
 have HL:Hid (xs.length=n):=hl
 clear hl
 rcases hA with rfl|⟨g,o,rfl,hne⟩
 ·have h0n:n=0:=by
   rcases Nat.eq_zero_or_pos n with h|h
   ·exact h
   ·obtain⟨_,_,hA,_⟩:=hr.2.2.2 h
    cases hA
  subst h0n
  obtain rfl:k=0:=by omega
  obtain rfl:xs=[]:=List.eq_nil_of_length_eq_zero HL.o
  go_enter Tryz.func215,Tryz.ntmps215
  go_wp2_with fail
  go_ret
  exact⟨none,0,c,rfl,Rd.empty _ _ hc,St.left H.o (Rd.empty _ _ hc) (.inl rfl),did_set _ _ _ _⟩
 ·go_enter Tryz.func215,Tryz.ntmps215
  go_wp2_with fail
  ·have e:c=k:=by assumption
   subst e
   go_ret
   have hn0:n-c=0:=by omega
   have hd:xs.drop c=[]:=List.drop_of_length_le (by have:=HL.o;omega)
   refine⟨_,_,_,rfl,?_,?_,did_set _ _ _ _⟩
   ·rw [←Vt];exact Rd.far (hr.take hk') (.inr ⟨g,o,rfl,hne⟩) _
   ·rw [hd]
    exact St.left H.o (by rw [hn0];exact Rd.empty _ _ (by omega)) (.inr ⟨g,o,rfl,hne⟩)
  ·go_ret
   refine⟨_,_,_,rfl,?_,?_,did_set _ _ _ _⟩
   ·rw [←Vt];exact Rd.far (hr.take hk') (.inr ⟨g,o,rfl,hne⟩) _
   ·exact St.left H.o (by rw [←qxr];exact Rd.drop hr hk') (.inr ⟨g,_,rfl,hne⟩)
theorem goOn_short (b k:Nat) (xs:List Int) (w:World) (h:St w b xs 0) (hk:xs.length<k) (_hk2:k≤9223372036854775807) :
 Calls Tryz.prog 215 #[.pointer (some ⟨b,0,none⟩),.int .i64 k] w (Cut w b [] xs 1):=by
 have S:Hid (St w b xs 0):=h
 obtain⟨A,n,c,h,hr,hA⟩:=h
 have hl:=Rd.bytes hr
 have hn:=hr.le
 have hc:=hr.cap
 have H:Hid (w.heap[b]?=some (.cells #[.slice A n c,.int .i64 0] 264 (0,0))):=h
 have h0:=two0 h
 clear h
 have hk':n<k:=by omega
 clear hl hA hr
 go_enter Tryz.func215,Tryz.ntmps215
 go_wp2_with (go_at_call 196;refine (fail_no _ _ _ _ _ _ H.o).mono ?_;rintro e w' ⟨rfl,rfl⟩)
 go_ret
 exact⟨none,0,0,rfl,Rd.nil _,St.fault S.o 1,did_set _ _ _ _⟩
theorem clone_any (A:Option Addr) (n c:Nat) (xs:List Int) (w:World) (hx:Rd w A n c (u8s xs)) (hl:n≤100000000000000) :
 Calls Tryz.prog 111 #[.slice A n c] w (Fresh w xs):=by
 obtain⟨i0,hi0,hz0,hz1,hz2⟩:=info_parts info8
 have q:=eqnil
 have HL:Hid (xs.length=n):=Rd.bytes hx
 cases A with
 | none=>
   have h0n:n=0:=by
    rcases Nat.eq_zero_or_pos n with h|h
    ·exact h
    ·obtain⟨_,_,hA,_⟩:=hx.2.2.2 h
     cases hA
   subst h0n
   obtain rfl:xs=[]:=List.eq_nil_of_length_eq_zero HL.o
   go_enter Tryz.func111,Tryz.ntmps111
   go_wp2_with fail
   go_ret
   exact Fresh.of (World.ownsRow_nil _ _ _ _) (Mb _ _)
 | some ad=>
   go_enter Tryz.func111,Tryz.ntmps111
   go_wp2_with (at_builtin;refine Qu _ rfl (.tmp 5) (.tmp 6) _ rfl w.heap.size 5 i0 _ 1 Tryz.underlying38 hi0 hz0 hz1 hz2 rfl _ 0 [] rfl (emptied w _) (some ad) n c (u8s xs) rfl (hx.alloc _) (u8s_one _) (by omega) (by omega) (size_alloc _ _) ?_;intro A2 n2 c2 w2 hn2 hown2 hg2 hat2)
   go_ret
   exact Fresh.of hown2 (below_add ((Mb _ _).alloc (Mr _) _) (emptied w _) (Mr _) hg2)
def Made (w:World) (xs:List Int) (e:Ending) (w':World):Prop:=
 ∃b:Nat,e=.returned (.pointer (some ⟨b,0,none⟩))∧w.heap.size≤b∧St w' b xs 0∧Bw w w'
theorem qxs {w:World} {base:Nat} {e:TypeId} {A:Option Addr} {n c:Nat} {xs:List Value} (h:w.ownsRow base e 1 (.slice A n c) n xs):A=none∨∃g o,A=some ⟨g,o,none⟩∧g<w.heap.size:=by
 rcases h.2 with⟨hv,_⟩|⟨g,cap,cur,hv,_,hh,_⟩
 ·simp only [Value.slice.injEq] at hv
  exact .inl hv.1
 ·simp only [Value.slice.injEq] at hv
  exact .inr ⟨g,0,hv.1,lt_of_block hh⟩
theorem Vn (A:Option Addr) (n c:Nat) (xs:List Int) (w:World) (hx:Rd w A n c (u8s xs)) (hl:n≤100000000000000) :
 Calls Tryz.prog 173 #[.slice A n c] w (Made w xs):=by
 go_enter Tryz.func173,Tryz.ntmps173
 go_wp2_with (go_at_call 111;refine (clone_any A n c xs _ hx hl).mono ?_;rintro e w1 ⟨A1,n1,c1,hn1,rfl,hown1,hb1⟩)
 go_ret
 refine⟨w1.heap.size,rfl,hb1.size,⟨A1,n1,c1,heap_alloc_new w1 _,(Rd.own hown1).alloc _,?_⟩,hb1.alloc hb1.size _⟩
 rcases qxs hown1 with h|⟨g,o,h,hlt⟩
 ·exact .inl h
 ·exact .inr ⟨g,o,h,by omega⟩
def num (xs:List Int):Int:=xs.foldl (fun a b=>256*a+b) 0
theorem qqe {xs:List Int} {j:Nat} (h:j<xs.length):num (xs.take (j+1))=256*num (xs.take j)+xs[j]:=by
 rw [List.take_succ_eq_append_getElem h,num,List.foldl_append]
 rfl
theorem or256 {a u:Nat} (ha:a<281474976710656) (hu:u≤255):bits .or .i64 ((a:Int)*256) (u:Int)=((256*a+u:Nat):Int):=by
 have h:=(bits_nat .i64 63 (by decide) (fun n h0 h1=>IntWalk.i64_in n (by omega)) (256*a) u (by omega) (by omega)).2
 rw [show ((a:Int)*256)=((256*a:Nat):Int) by omega,h]
 have h2:256*a+u=256*a ||| u:=Nat.two_pow_add_eq_or_of_lt (i:=8) (b:=u) (by omega) a
 rw [h2]
def Told (w:World) (b:Nat) (n:Int) (xs:List Int) (x:Int) (e:Ending) (w':World):Prop:=
 e=.returned (.int .i64 n)∧St w' b xs x∧w.grownBy w' (some b)
theorem num_ok (b:Nat) (x:Int) (xs:List Int) (w:World) (h:St w b xs 0) (hk:wd x≤xs.length) (h8:∀u ∈ xs,0≤u∧u≤255) :
 Calls Tryz.prog 174 #[.pointer (some ⟨b,0,none⟩),.int .i64 x] w (Told w b (num (xs.take (wd x))) (xs.drop (wd x)) 0):=by
 have S:Hid (St w b xs 0):=h
 obtain⟨A,n,c,h,hr0,_⟩:=h
 have H:Hid (w.heap[b]?=some (.cells #[.slice A n c,.int .i64 0] 264 (0,0))):=h
 clear h hr0
 have H8:Hid (∀u ∈ xs,0≤u∧u≤255):=h8
 clear h8
 have hw:=wd_le x
 go_enter Tryz.func174,Tryz.ntmps174
 go_wp2_with (first
  | (go_at_call 195;refine (next_no _ _ _ _ _ H.o).mono ?_;rintro e w' ⟨rfl,rfl⟩)
  | (go_at_call 70;refine (width_any _ _).mono ?_;rintro e w' ⟨rfl,rfl⟩)
  | (go_at_call 215;refine (goOn_ok b (wd x) xs w S.o hk).mono ?_;rintro e w1 ⟨A1,n1,c1,rfl,hr1,hs1,hd1⟩))
 obtain⟨ys,hys⟩:∃ys,ys=xs.take (wd x):=⟨_,rfl⟩
 rw [←hys] at hr1
 have hyl:ys.length=wd x:=by rw [hys];simp;omega
 have hn1:n1=wd x:=by have:=Rd.bytes hr1;omega
 have hy8:∀u ∈ ys,0≤u∧u≤255:=fun u hu=>H8.o u (by rw [hys] at hu;exact List.mem_of_mem_take hu)
 have HY:Hid (∀u ∈ ys,0≤u∧u≤255):=hy8
 have HYL:Hid (ys.length=wd x):=hyl
 have HYS:Hid (ys=xs.take (wd x)):=hys
 have hn6:n1≤6:=by omega
 have HN:Hid (n1=wd x):=hn1
 clear hy8 hyl hys hn1 H8
 go_loopw [5,14] (fun v i wr=>∃j:Nat,j≤n1∧i=.int .i64 j∧w1=wr∧∃a:Nat,v=.int .i64 a∧Hid ((a:Int)=num (ys.take j))∧Hid (a<2 ^ (8*j))) (fun _ i _=>n1-(intOf i).toNat)
 case atStart=>exact⟨0,Nat.zero_le _,rfl,rfl,0,rfl,(show _=_ by simp [num]),(show _<_ by simp)⟩
 case round=>
  obtain⟨j,hj,rfl,rfl,a,rfl,ha,hlt⟩:=hrel
  by_cases hjn:j<n1
  ·have hjl:j<ys.length:=by have:=HYL.o;have:=HN.o;omega
   obtain⟨bb,o,hA,hc⟩:=Rd.byte hr1 hjl
   subst hA
   obtain⟨u,hu,hu2⟩:∃u:Nat,ys[j]=(u:Int)∧u≤255:=by
    have:=HY.o ys[j] (Me_ hjl)
    exact⟨ys[j].toNat,by omega,by omega⟩
   rw [hu] at hc
   have HU:Hid (ys[j]=(u:Int)):=hu
   have ha2:a<281474976710656:=by
    have:=hlt.o
    have:=qw4 (k:=j) (by omega)
    omega
   clear hu
   go_wp2
   go_roundw
   case rel=>
    refine⟨j+1,by omega,by go_num,trivial,256*a+u,V1 (or256 ha2 hu2),(show _=_ from ?_),(show _<_ from ?_)⟩
    ·rw [qqe hjl,←ha.o,HU.o]
     omega
    ·have:=hlt.o
     have e:8*(j+1)=8*j+8:=by omega
     rw [e,Nat.pow_add]
     omega
   case measure=>simp [intOf];omega
  ·obtain rfl:j=n1:=by omega
   go_wp2
   go_ret
   refine⟨?_,hs1,hd1⟩
   have:=ha.o
   rw [Mt (by have:=HYL.o;have:=HN.o;omega),HYS.o] at this
   exact Qg this
theorem num_short (b:Nat) (x:Int) (xs:List Int) (w:World) (h:St w b xs 0) (hk:xs.length<wd x) :
 Calls Tryz.prog 174 #[.pointer (some ⟨b,0,none⟩),.int .i64 x] w (Told w b 0 xs 1):=by
 have S:Hid (St w b xs 0):=h
 obtain⟨A,n,c,h,hr0,_⟩:=h
 have H:Hid (w.heap[b]?=some (.cells #[.slice A n c,.int .i64 0] 264 (0,0))):=h
 clear h hr0
 have hw:=wd_le x
 go_enter Tryz.func174,Tryz.ntmps174
 go_wp2_with (first
  | (go_at_call 195;refine (next_no _ _ _ _ _ H.o).mono ?_;rintro e w' ⟨rfl,rfl⟩)
  | (go_at_call 70;refine (width_any _ _).mono ?_;rintro e w' ⟨rfl,rfl⟩)
  | (go_at_call 215;refine (goOn_short b (wd x) xs w S.o hk (by omega)).mono ?_;rintro e w1 ⟨A1,n1,c1,rfl,hr1,hs1,hd1⟩))
 obtain rfl:n1=0:=by have:=Rd.bytes hr1;simpa using this.symm
 refine wp_loop_rounds 1 ?_
 rw [rounds_succ]
 go_wp2
 go_ret
 exact⟨rfl,hs1,hd1⟩
theorem num_fault (b:Nat) (x:Int) (xs:List Int) (e:Int) (w:World) (h:St w b xs e) (he:(e != 0)=true) :
 Calls Tryz.prog 174 #[.pointer (some ⟨b,0,none⟩),.int .i64 x] w (Told w b 0 xs e):=by
 have S:Hid (St w b xs e):=h
 obtain⟨A,n,c,h,hr0,_⟩:=h
 have H:Hid (w.heap[b]?=some (.cells #[.slice A n c,.int .i64 e] 264 (0,0))):=h
 clear h hr0
 go_enter Tryz.func174,Tryz.ntmps174
 go_wp2_with (first
  | (go_at_call 195;refine (next_yes _ _ _ _ _ _ H.o he).mono ?_;rintro e w' ⟨rfl,rfl⟩)
  | (go_at_call 70;refine (width_any _ _).mono ?_;rintro e w' ⟨rfl,rfl⟩)
  | (go_at_call 214;refine (stay_any _ _ _).mono ?_;rintro e w' ⟨rfl,rfl⟩))
 refine wp_loop_rounds 1 ?_
 rw [rounds_succ]
 go_wp2
 go_ret
 exact⟨rfl,S.o,World.grownBy.refl _ _⟩
theorem St.below {w w':World} {b:Nat} {xs:List Int} {e:Int} (h:St w b xs e) (hb:Bw w w'):St w' b xs e:=by
 obtain⟨A,n,c,h,hr,hA⟩:=h
 exact⟨A,n,c,(hb.block b (lt_of_block h)).trans h,hr.below hb,hA⟩
theorem St.lt {w:World} {b:Nat} {xs:List Int} {e:Int} (h:St w b xs e):b<w.heap.size:=by
 obtain⟨A,n,c,h,_⟩:=h
 exact lt_of_block h
def rdN (k:Nat) (xs:List Int) (e:Int):Int×List Int×Int:=
 if e≠0 then (0,xs,e) else if k≤xs.length then (num (xs.take k),xs.drop k,0) else (0,xs,1)
theorem num_any (b:Nat) (x:Int) (xs:List Int) (e:Int) (w:World) (h:St w b xs e) (h8:∀u ∈ xs,0≤u∧u≤255) :
 Calls Tryz.prog 174 #[.pointer (some ⟨b,0,none⟩),.int .i64 x] w (Told w b (rdN (wd x) xs e).1 (rdN (wd x) xs e).2.1 (rdN (wd x) xs e).2.2):=by
 unfold rdN
 by_cases he:e=0
 ·subst he
  rw [if_neg (by simp)]
  by_cases hk:wd x≤xs.length
  ·rw [if_pos hk]
   exact num_ok b x xs w h hk h8
  ·rw [if_neg hk]
   exact num_short b x xs w h (by omega)
 ·rw [if_pos he]
  exact num_fault b x xs e w h (by simpa using he)
def endN (xs:List Int) (e:Int):Int:=if e≠0 then e else if xs=[] then 0 else 2
theorem Jl {k:Nat} {xs:List Int} {e:Int} (h:∀u ∈ xs,0≤u∧u≤255):∀u ∈ (rdN k xs e).2.1,0≤u∧u≤255:=by
 unfold rdN
 split
 ·exact h
 ·split
  ·exact fun u hu=>h u (List.mem_of_mem_drop hu)
  ·exact h
end TabR
namespace Beq
open Kit Byt
def nl (xs:List Nat):List Int:=xs.map fun n:Nat=>(n:Int)
def stn (xs:List Nat):ByteArray:=strOfNums (nl xs)
theorem qqf {P:Program} {w:World} {A:Option Addr} {n c:Nat} {xs:List Nat} {src e dst:TypeId} (hr:Rd w A n c (u8n xs)) (hs:P.underlying src=some (.slice e)) (he:P.underlying e=some (.int .u8)) (hd:P.underlying dst=some .string) :
 (convert src dst (.slice A n c)).run P w=.ok (.string (stn xs)) w:=by
 have hl:=Rd.nats hr
 rcases Nat.eq_zero_or_pos n with h0|h0
 ·subst h0
  obtain rfl:xs=[]:=List.eq_nil_of_length_eq_zero hl
  rcases A with _|a
  ·rw [run_convert_bytes_nil w src e hs he 0 c dst hd]
   rfl
  ·rw [run_convert_bytes_string w src dst e _ 0 c hs he hd,run_bytesToString w a 0 c [] (by simp [loadCells,loadCellsFrom])]
   rfl
 ·obtain⟨b,o,rfl,_,hc⟩:=hr.2.2.2 h0
  exact run_convert_bytes_arg w src e hs he b o n c (nl xs) (by simp [nl,hl]) (fun i hi=>by
   rw [hc i (.int .u8 ((nl xs).getD i 0)) (by
    have:i<xs.length:=by omega
    simp [u8n,nl,List.getD,this])]) dst hd
theorem stn_inj {xs ys:List Nat} (hx:∀u ∈ xs,u<256) (hy:∀u ∈ ys,u<256) (h:(stn xs).toList=(stn ys).toList):xs=ys:=by
 unfold stn at h
 rw [Lib.strOfNums_toList,Lib.strOfNums_toList] at h
 have h2:=congrArg (List.map UInt8.toNat) h
 have e:∀zs:List Nat,(∀u ∈ zs,u<256)→(Lib.bytesOf (nl zs)).map UInt8.toNat=zs:=by
  intro zs hz
  have:(Lib.bytesOf (nl zs)).map UInt8.toNat=zs.map id:=by
   simp only [Lib.bytesOf,nl,List.map_map]
   refine List.map_congr_left fun u hu=>?_
   have:=hz u hu
   simp [Nat.mod_eq_of_lt this]
  simpa using this
 rw [e xs hx,e ys hy] at h2
 exact h2
theorem eql_str {xs ys:List Nat} (hx:∀u ∈ xs,u<256) (hy:∀u ∈ ys,u<256):((stn xs).toList==(stn ys).toList)=decide (xs=ys):=by
 rw [Bool.eq_iff_iff]
 simp only [beq_iff_eq,decide_eq_true_eq]
 exact⟨stn_inj hx hy,fun h=>by rw [h]⟩
theorem Jh (A B:Option Addr) (n m c d:Nat) (xs ys:List Nat) (w:World) (hx:Rd w A n c (u8n xs)) (hy:Rd w B m d (u8n ys)) (bx:∀u ∈ xs,u<256) (by_:∀u ∈ ys,u<256) :
 Calls Tryz.prog 132 #[.slice A n c,.slice B m d] w fun e w'=>e=.returned (.bool (decide (xs=ys)))∧w=w':=by
 have c1:=qqf (P:=Tryz.prog) (src:=38) (e:=5) (dst:=9) hx Tryz.underlying38 Tryz.underlying5 Tryz.underlying9
 have c2:=qqf (P:=Tryz.prog) (src:=38) (e:=5) (dst:=9) hy Tryz.underlying38 Tryz.underlying5 Tryz.underlying9
 have c3:=Hz (eql_str bx by_)
 generalize decide (xs=ys)=q at *
 generalize stn xs=sx at *
 generalize stn ys=sy at *
 clear hx hy bx by_
 go_enter Tryz.func132,Tryz.ntmps132
 go_wp2
 go_ret
 exact⟨Q0 c3.o,rfl⟩
end Beq
namespace ImgS
open Kit Byt Mem Beq ShaM ShaE ShaH
theorem Rd.of_blk {w:World} {g k n:Nat} {t:TypeId} {xs:List Nat} (hB:Blk w g t (u8n xs)) (hn:xs.length=n) (hk:k≤n) (h63:n≤9223372036854775807):Rd w (some ⟨g,0,none⟩) k n (u8n (xs.take k)):=by
 refine⟨by rw [Qv];simp;omega,hk,h63,fun _=>⟨g,0,rfl,hB.lt,fun j u hu=>?_⟩⟩
 rw [Nat.zero_add]
 refine hB.cell ?_
 have e:u8n (xs.take k)=(u8n xs).take k:=by simp [u8n]
 rw [e,List.getElem?_take] at hu
 split at hu
 ·exact hu
 ·cases hu
theorem J7 (xs:List Nat):u8n xs=NumA.u8s (nl xs):=by simp [u8n,nl]
def pbn (n x:Int):List Nat:=(List.range (NumA.wd x)).map fun i=>NumB.cl (NumA.wd x) n/2 ^ (8*(NumA.wd x-1-i))%256
theorem Y5 (n x:Int):nl (pbn n x)=NumB.putb n x:=by simp [nl,pbn,NumB.putb,NumB.be,List.map_map,Function.comp_def]
theorem Zh (n x:Int):(pbn n x).length=NumA.wd x:=by simp [pbn]
theorem pbn_lt (n x:Int):by256 (pbn n x):=by
 intro c hc
 simp only [pbn,List.mem_map,List.mem_range] at hc
 obtain⟨i,_,rfl⟩:=hc
 omega
theorem Xk (xs ys:List Nat):nl (xs++ys)=nl xs++nl ys:=by simp [nl]
theorem Ww (xs:List Nat):(nl xs).length=xs.length:=by simp [nl]
theorem size32:(Tryz.prog.info? 200).map (·.size)=some 32:=by kernel_rfl
def Summed (w:World) (g:Nat) (xs:List Nat) (e:Ending) (w':World):Prop:=
 ∃A n c,e=.returned (.slice A n c)∧Rd w' A n c (u8n xs)∧w.grownBy w' (some g)
theorem dsum_any (g:Nat) (A:Option Addr) (n c:Nat) (xs:List Nat) (w:World) (hT:Tab w) (h0:0<g) (hH:Hs w g []) (hS:Src w g A n c xs) (hx:by256 xs) (hbd:xs.length<549755813888) :
 Calls Tryz.prog 73 #[.agg #[.pointer (some ⟨g,0,none⟩)],.slice A n c] w (Summed w g (dig xs)):=by
 have HT:=Hz hT
 have HS:=Hz hS
 have HH:=Hz hH
 have hlt:=hH.lt
 have hz32:=ShaF.zero32
 obtain⟨Z2,hZ2⟩:∃Z2:Array Value,Z2=(u8n (List.replicate 32 0)).toArray:=⟨_,rfl⟩
 simp only [←hZ2] at hz32
 have HZ2:=Hz hZ2
 obtain⟨D,hD⟩:∃D:List Nat,D=dig xs:=⟨_,rfl⟩
 have hdl:D.length=32:=by rw [hD,Ul]
 have HSM:=Hz (fun w1 (h1:Tab w1) (h2:Hs w1 g xs)=>ShaJ.sum_any g xs w1 h1 h2 hx hbd)
 rw [←hD] at HSM
 rw [←hD]
 clear hT hS hH hZ2 hD
 go_enter Tryz.func73,Tryz.ntmps73
 go_wp2_with fail
 have hb0:Bw w (w.alloc (.cells #[.pointer (some ⟨g,0,none⟩)] 142)):=(Mb _ _).alloc (Mr _) _
 have hB0:=Hz (Blk.new w 142 [.pointer (some ⟨g,0,none⟩)])
 have hs0:(w.alloc (.cells #[.pointer (some ⟨g,0,none⟩)] 142)).heap.size=w.heap.size+1:=by simp
 have HS0:=Hz (show Src (w.alloc (.cells #[.pointer (some ⟨g,0,none⟩)] 142)) g A n c xs from⟨HS.o.1.below hb0,HS.o.2⟩)
 have HH0:=Hz (HH.o.below hb0)
 have HT0:=Hz (HT.o.below hb0 HT.o.1)
 have HB0:=Hz hb0
 clear hb0
 generalize hw0:w.alloc (.cells #[.pointer (some ⟨g,0,none⟩)] 142)=w0 at *
 clear hw0
 refine (ShaI.write_any g A n c xs [] w0 HT0.o h0 HH0.o HS0.o hx (by simp;omega)).mono ?_
 rintro e w1 ⟨rfl,hH1,hg1⟩
 rw [List.nil_append] at hH1
 have HK1:=Hz (show Keep (fun k=>k=g) w w1 from (Keep.of_below HB0.o).trans (Keep.grown hg1 (fun k hk=>by injection hk with hk;exact hk.symm)) (fun k h=>.inl h))
 have hB1:Blk w1 w.heap.size 142 [.pointer (some ⟨g,0,none⟩)]:=(hg1.block w.heap.size (by omega) (by simp;omega)).trans hB0.o
 have c1:=hB1.cell (i:=0) rfl
 have HT1:=Hz (show Tab w1 from⟨by have:=HK1.o.size;omega,fun i hi=>(World.cell?_of_block (HK1.o.block 0 HT.o.1 (show ¬0=g by omega))).trans (HT.o.2 i hi)⟩)
 have HH1:=Hz hH1
 clear hH1 hg1 hB0 hB1 HB0
 go_wp2_with (first
  | (go_at_call 114;refine (HSM.o w1 HT1.o HH1.o).mono ?_;rintro e w2 ⟨rfl,hb2⟩;clear c1)
  | (refine Qq rfl 200 (.tmp 5) (.tmp 12) rfl w2.heap.size rfl (u8n D) rfl (Blk_at HZ2.o rfl) (by rw [Qv,Qv,hdl,List.length_replicate]) (by rw [Qv,hdl];exact size32) (u8n_one _) ?_;intro w3 hB3 ho3))
 go_ret
 have hR:=Rd.of_blk (k:=32) hB3.o hdl (by omega) (by omega)
 rw [Mt (by omega)] at hR
 refine⟨_,_,_,rfl,hR,?_⟩
 have hb3:Bw w2 w3:=ho3.o.below ((Mb w2.heap.size w2).alloc (Mr _) (.cells Z2 200)) (Mr _) (by simp)
 have hk:=HK1.o.trans (Keep.of_below (F:=fun k=>k=g) (hb2.trans (hb3.mono hb2.size))) (fun _ h=>.inl h)
 exact⟨hk.os,hk.tape,hk.output,hk.size,fun k hk1 hk2=>hk.block k hk1 (fun h=>hk2 (by rw [show k=g from h]))⟩
theorem tsum_any (g:Nat) (A:Option Addr) (n c:Nat) (xs:List Nat) (w:World) (hT:CrcC.Tb w g 256) (hR:Rd w A n c (u8n xs)) (hx:by256 xs) :
 Calls Tryz.prog 75 #[.agg #[.pointer (some ⟨g,0,none⟩)],.slice A n c] w fun e w'=>∃A' n' c',e=.returned (.slice A' n' c')∧Rd w' A' n' c' (u8n (pbn (CrcM.sm xs:Nat) 4))∧Bw w w':=by
 have HS:=Hz (CrcD.Tx g A n c xs (w.alloc (.cells #[.pointer (some ⟨g,0,none⟩)] 146)) (CrcD.Tb.below hT ((Mb _ _).alloc (Mr _) _)) (hR.alloc _) hx)
 have hlt:CrcM.sm xs<4294967296:=CrcM.sm_lt xs
 obtain⟨y,hy⟩:∃y,y=CrcM.sm xs:=⟨_,rfl⟩
 rw [←hy] at HS hlt
 rw [←hy]
 clear hT hR hy
 go_enter Tryz.func75,Tryz.ntmps75
 go_wp2_with (first
  | (go_at_call 116;refine HS.o.mono ?_;rintro e w1 ⟨rfl,rfl⟩)
  | (go_at_call 31;refine (NumB.put_any none 0 0 [] (y:Nat) 4 _ (Rd.nil _) (by omega)).mono ?_;rintro e w1 ⟨A1,n1,c1,hn1,rfl,hown1,hb1⟩))
 go_ret
 refine⟨A1,n1,c1,rfl,?_,?_⟩
 ·rw [J7,Y5]
  simpa using Rd.own hown1
 ·exact ((Mb w.heap.size w).alloc (Mr _) _).trans (hb1.mono (by simp))
def Fun2 (w:World) (G gH gT:Nat):Prop:=Blk w G 75 [.func (.func 73) #[.agg #[.pointer (some ⟨gH,0,none⟩)]] #[],.func (.func 75) #[.agg #[.pointer (some ⟨gT,0,none⟩)]] #[]]
def closed (xs:List Nat):List Nat:=(xs++dig xs)++pbn (CrcM.sm (xs++dig xs):Nat) 4
theorem Q2 (xs:List Nat):(closed xs).length=xs.length+36:=by
 unfold closed
 rw [Ma,Ma,Ul,Zh]
 rfl
theorem closed_lt {xs:List Nat} (h:by256 xs):by256 (closed xs):=fun c hc=>by
 rcases List.mem_append.1 hc with h1|h1
 ·rcases List.mem_append.1 h1 with h2|h2
  ·exact h c h2
  ·exact qzd xs c h2
 ·exact pbn_lt _ _ c h1
theorem turn_any (A:Option Addr) (n c:Nat) (xs:List Nat) (gH gT G:Nat) (w:World) (hT:Tab w) (hR:Rd w A n c (u8n xs)) (hx:by256 xs) (hl:xs.length≤100000) (h0:0<gH) (hH:Hs w gH []) (hTb:CrcC.Tb w gT 256) (hF:Fun2 w G gH gT) (hne:gT≠gH) (hG:G≠gH) :
 Calls Tryz.prog 71 #[.slice A n c,.slice (some ⟨G,0,none⟩) 2 2] w fun e w'=>∃B m d,e=.returned (.slice B m d)∧w'.ownsRow w.heap.size 5 1 (.slice B m d) m (u8n (closed xs))∧w.grownBy w' (some gH):=by
 obtain⟨i0,hi0,hz0,hz1,hz2⟩:=info_parts NumA.info8
 have HT:=Hz hT
 have HH:=Hz hH
 have HTb:=Hz hTb
 have HF:=Hz hF
 have hn:xs.length=n:=Rd.nats hR
 have hR':=hR
 rw [J7] at hR'
 have HC:=Hz (TabR.clone_any A n c (nl xs) w hR' (by omega))
 have hgH:=hH.lt
 clear hT hR hR' hH hTb hF
 go_enter Tryz.func71,Tryz.ntmps71
 go_wp2_with (go_at_call 111;refine HC.o.mono ?_;rintro e w1 ⟨A1,n1,c1,hn1,rfl,hown1,hb1⟩)
 have hown1':w1.ownsRow w.heap.size 5 1 (.slice A1 n1 c1) n1 (u8n xs):=by rw [J7];exact hown1
 obtain rfl:n1=n:=by have:=hn1.o;rw [Ww] at this;omega
 obtain⟨D,hD⟩:∃D:List Nat,D=dig xs:=⟨_,rfl⟩
 have hdl:D.length=32:=by rw [hD,Ul]
 obtain⟨E,hE⟩:∃E:List Nat,E=pbn (CrcM.sm (xs++D):Nat) 4:=⟨_,rfl⟩
 have hel:E.length=4:=by rw [hE,Zh];rfl
 have HCL:=Hz (show closed xs=xs++D++E from by rw [hE,hD];rfl)
 have HD:=Hz hD
 have HE:=Hz hE
 have hxd:by256 (xs++D):=fun c hc=>by
  rcases List.mem_append.1 hc with h|h
  ·exact hx c h
  ·rw [hD] at h;exact qzd xs c h
 have HXD:=Hz hxd
 have HN:=Hz hn
 clear hD hE hown1 hn1 hn HC hxd
 go_loopw [5,7,12] (fun o f i wr=>∃(k:Nat) (B:Option Addr) (m d:Nat) (ys:List Nat),k≤2∧i=.int .i64 k∧o=.slice B m d∧Hid (wr.ownsRow w.heap.size 5 1 (.slice B m d) m (u8n ys))∧Hid (Keep (fun q=>q=gH) w wr)∧Hid (k=0→ys=xs∧Hs wr gH [])∧Hid (k=1→ys=xs++D)∧Hid (k=2→ys=xs++D++E)) (fun _ _ i _=>2-(intOf i).toNat)
 case atStart=>exact⟨0,A1,n1,c1,xs,by omega,rfl,rfl,Hz hown1',Hz (Keep.of_below hb1),Hz (fun _=>⟨rfl,HH.o.below hb1⟩),Hz (fun h=>by omega),Hz (fun h=>by omega)⟩
 case round=>
  obtain⟨k,B,m,d,ys,hk,rfl,rfl,hO,hKP,h00,h11,h22⟩:=hrel
  have hKs:=hKP.o.size
  have hTr:=Hz (show Tab wr from⟨by have:=HT.o.1;omega,fun i hi=>(World.cell?_of_block (hKP.o.block 0 HT.o.1 (show ¬0=gH by omega))).trans (HT.o.2 i hi)⟩)
  have hFr:Fun2 wr G gH gT:=hKP.o.blk HF.o (by show ¬G=gH;exact hG)
  have hml:ys.length=m:=by have:=hO.o.1;rw [Qv] at this;omega
  match k,hk with
  | 0,_=>
    obtain⟨rfl,hH1⟩:=h00.o rfl
    have f0:=hFr.cell (i:=0) rfl
    have HS:=Hz (dsum_any gH B m d ys wr hTr.o h0 hH1 ⟨Rd.own hO.o,fun _ b o hA=>by
     have:=hO.o.lt b (by rw [hA];rfl)
     omega⟩ hx (by omega))
    rw [←HD.o] at HS
    clear h00 h11 h22
    go_wp2_with (first
     | (go_at_call 73;refine HS.o.mono ?_;rintro e w2 ⟨A2,n2,c2,rfl,hR2,hg2⟩;have hO2:=Hz (show w2.ownsRow w.heap.size 5 1 (.slice B m d) m (u8n ys) from (Keep.grown (F:=fun q=>q=gH) hg2 (fun k hk=>by injection hk with hk;exact hk.symm)).own hO.o (fun q hq hqg=>by have:=(hO.o.lt q hq);have h2:q=gH:=hqg;omega));have hK2:=Hz (hKP.o.trans (Keep.grown (F:=fun q=>q=gH) hg2 (fun k hk=>by injection hk with hk;exact hk.symm)) (fun _ h=>.inl h));obtain rfl:32=n2:=by have:=Rd.nats hR2;omega
        clear hg2 f0)
     | (at_builtin;refine Qu _ rfl (.tmp 16) (.tmp 19) _ rfl w.heap.size 5 i0 _ 1 Tryz.underlying38 hi0 hz0 hz1 hz2 rfl _ m _ rfl hO2.o A2 32 c2 (u8n D) rfl hR2 (u8n_one _) (by omega) (by omega) (by have:=hK2.o.size;omega) ?_;intro A3 n3 c3 w3 hn3 hown3 hg3 hat3;clear hat3))
    go_roundw
    case rel=>exact⟨1,A3,n3,c3,ys++D,by omega,rfl,rfl,Hz (by rw [←Jw];exact hown3),Hz (hK2.o.trans (Keep.grown (F:=fun q=>w.heap.size≤q) hg3 (fun q hq=>(hO2.o.lt q hq).1)) (fun q h=>.inr h)),Hz (fun h=>by omega),Hz (fun _=>rfl),Hz (fun h=>by omega)⟩
    case measure=>simp [intOf]
  | 1,_=>
    obtain rfl:=h11.o rfl
    have f1:=hFr.cell (i:=1) rfl
    have HS:=Hz (tsum_any gT B m d (xs++D) wr ((hKP.o.block gT (lt_of_block HTb.o) (by show ¬gT=gH;exact hne)).trans HTb.o) (Rd.own hO.o) HXD.o)
    rw [←HE.o] at HS
    clear h00 h11 h22
    go_wp2_with (first
     | (go_at_call 75;refine HS.o.mono ?_;rintro e w2 ⟨A2,n2,c2,rfl,hR2,hb2⟩;have hO2:=Hz (own_below hO.o hb2);have hK2:=Hz (hKP.o.trans (Keep.of_below (F:=fun q=>q=gH) hb2) (fun _ h=>.inl h));obtain rfl:4=n2:=by have:=Rd.nats hR2;omega
        clear hb2 f1)
     | (at_builtin;refine Qu _ rfl (.tmp 16) (.tmp 19) _ rfl w.heap.size 5 i0 _ 1 Tryz.underlying38 hi0 hz0 hz1 hz2 rfl _ m _ rfl hO2.o A2 4 c2 (u8n E) rfl hR2 (u8n_one _) (by simp at hml;omega) (by simp at hml;omega) (by have:=hK2.o.size;omega) ?_;intro A3 n3 c3 w3 hn3 hown3 hg3 hat3;clear hat3))
    go_roundw
    case rel=>exact⟨2,A3,n3,c3,xs++D++E,by omega,rfl,rfl,Hz (by rw [←Jw];exact hown3),Hz (hK2.o.trans (Keep.grown (F:=fun q=>w.heap.size≤q) hg3 (fun q hq=>(hO2.o.lt q hq).1)) (fun q h=>.inr h)),Hz (fun h=>by omega),Hz (fun h=>by omega),Hz (fun _=>rfl)⟩
    case measure=>simp [intOf]
  | 2,_=>
    obtain rfl:=h22.o rfl
    clear h00 h11 h22
    go_wp2
    go_ret
    refine⟨B,m,d,rfl,by rw [HCL.o];exact hO.o,?_⟩
    have hk:=hKP.o
    exact⟨hk.os,hk.tape,hk.output,hk.size,fun k hk1 hk2=>hk.block k hk1 (fun h=>hk2 (by rw [show k=gH from h]))⟩
def Gives (w:World) (xs:List Nat) (e:Ending) (w':World):Prop:=∃B m d,e=.returned (.slice B m d)∧w'.ownsRow w.heap.size 5 1 (.slice B m d) m (u8n xs)∧Bw w w'
theorem own_mono {w:World} {b b':Nat} {e:TypeId} {v:Value} {n:Nat} {xs:List Value} (h:w.ownsRow b' e 1 v n xs) (hb:b≤b'):w.ownsRow b e 1 v n xs:=by
 refine⟨h.1,?_⟩
 rcases h.2 with h1|⟨g,cap,cur,hv,hg,hrest⟩
 ·exact .inl h1
 ·exact .inr ⟨g,cap,cur,hv,by omega,hrest⟩
theorem sealed_any (A:Option Addr) (n c:Nat) (xs:List Nat) (w:World) (hT:Tab w) (hR:Rd w A n c (u8n xs)) (hx:by256 xs) (hl:xs.length≤100000) :
 Calls Tryz.prog 32 #[.slice A n c] w (Gives w (closed xs)):=by
 have HT:=Hz hT
 have HR:=Hz hR
 have hmf:=CrcD.Y7
 clear hT hR
 go_enter Tryz.func32,Tryz.ntmps32
 go_wp2_with fail
 refine (ShaJ.Nw _).mono ?_
 rintro e w1 ⟨g,rfl,hg,hH1,hb1⟩
 have HH1:=Hz hH1
 clear hH1
 go_wp2_with fail
 refine (CrcC.Wj _).mono ?_
 rintro e w2 ⟨rfl,hT2,hb2,hs2⟩
 have hlt:=HH1.o.lt
 have h00:=HT.o.1
 have hb12:Bw w w2:=hb1.trans (hb2.mono hb1.size)
 have hb3:Bw w (w2.alloc (.cells #[.func (.func 73) #[.agg #[.pointer (some ⟨g,0,none⟩)]] #[],.func (.func 75) #[.agg #[.pointer (some ⟨w1.heap.size,0,none⟩)]] #[]] 75)):=hb12.alloc hb12.size _
 have HC:=Hz (turn_any A n c xs g w1.heap.size w2.heap.size (w2.alloc (.cells #[.func (.func 73) #[.agg #[.pointer (some ⟨g,0,none⟩)]] #[],.func (.func 75) #[.agg #[.pointer (some ⟨w1.heap.size,0,none⟩)]] #[]] 75)) (HT.o.below hb3 h00) (HR.o.below hb3) hx hl (by omega) (HH1.o.below (hb2.alloc hb2.size _)) (CrcD.Tb.below hT2 ((Mb w2.heap.size w2).alloc (Mr _) _)) (Blk.new w2 _ [.func (.func 73) #[.agg #[.pointer (some ⟨g,0,none⟩)]] #[],.func (.func 75) #[.agg #[.pointer (some ⟨w1.heap.size,0,none⟩)]] #[]]) (by omega) (by omega))
 have HB3:=Hz hb3
 have hs3:w.heap.size≤w2.heap.size:=hb12.size
 clear hT2 hb2 hb1 HH1 hb3 hb12 hs2
 go_wp2_with fail
 refine HC.o.mono ?_
 rintro e w3 ⟨B,m,d,rfl,hR3,hg3⟩
 go_wp2_with fail
 go_ret
 exact⟨B,m,d,rfl,own_mono hR3 (by simp;omega),HB3.o.grown hg3 (by simp;omega) (fun k hk=>by injection hk with hk;omega)⟩
end ImgS
namespace ImgA
open Kit Byt Mem
theorem Kq {H:Type} {enc:TypeId×Value→H} {w:World} {t e:TypeId} {fuel:Nat} {cs:List Value} {x:DataW H×List MemPlace} {P:Program}
 (ht:P.underlying t=some (.slice e)) (he:P.underlying e=some (.int .u8)) (hc:P.cellsOf e=1) (h:DataW.trod enc P w 0 (fun _=>true) true fuel t cs=some x) :
 ∃A n c xs,cs=[.slice A n c]∧Rd w A n c (u8n xs)∧∀u ∈ xs,u<256:=by
 rcases Go.Deep.open_slice1 ht hc h with⟨hcs,_⟩|⟨a,n,c,m,q,V,D,Pl,hcs,_,hl,hm,hmm,_,hi⟩
 ·exact⟨none,0,0,[],hcs,Rd.nil w,by simp⟩
 ·have each:∀i,i<n→∃u:Nat,u<256∧w.cell? (a.add i)=some (.int .u8 (u:Int)):=by
   intro i hin
   obtain⟨h1,h2⟩:=hi i (by rw [hmm];simp;omega)
   obtain⟨v,q,_,wv⟩:=DataW.trod_int he h2
   have hb:=bounds_u8 wv
   obtain hv:V i=.int .u8 v:=by simpa using q
   exact⟨v.toNat,by omega,by rw [h1,hv,Int.toNat_of_nonneg hb.1]⟩
  obtain⟨f,hf2⟩:=Go.Deep.choose_lt each
  refine⟨some a,n,c,(List.range n).map f,hcs,⟨by simp [u8n],hl,by unfold maxLen at hm;omega,fun hp=>?_⟩,?_⟩
  ·obtain⟨b,off,spot⟩:=a
   have hc0:=(hf2 0 hp).2
   have hspot:spot=none:=by simpa [Addr.add] using World.cell?_spot hc0
   subst hspot
   refine⟨b,off,rfl,?_,fun j u hu=>?_⟩
   ·have:=block_lt_of_cell hc0
    simpa [Addr.add] using this
   ·have hj:j<n:=by
     have:=(List.getElem?_eq_some_iff.1 hu).1
     simpa [u8n] using this
    simp only [u8n,List.map_map,List.getElem?_map,List.getElem?_range hj,Option.map_some,Option.some.injEq] at hu
    subst hu
    have:=(hf2 j hj).2
    rwa [Addr.add_lit] at this
  ·intro u hu
   simp only [List.mem_map,List.mem_range] at hu
   obtain⟨i,hi',rfl⟩:=hu
   exact (hf2 i hi').1
structure Im where
 p:Int
 v:Int
 h:Int
 m:Int
 f:Int
 s:Int
 r:Int
 A:Option Addr
 n:Nat
 c:Nat
 xs:List Nat
@[reducible] def Im.val (i:Im):Value:=.agg #[.int .i64 i.p,.int .i64 i.v,.int .i64 i.h,.int .i64 i.m,.int .i64 i.f,.int .i64 i.s,.int .i64 i.r,.slice i.A i.n i.c]
def Im.cells (i:Im):List Value:=[.int .i64 i.p,.int .i64 i.v,.int .i64 i.h,.int .i64 i.m,.int .i64 i.f,.int .i64 i.s,.int .i64 i.r,.slice i.A i.n i.c]
structure Im.ok (w:World) (i:Im):Prop where
 code:Rd w i.A i.n i.c (u8n i.xs)
 byt:∀u ∈ i.xs,u<256
theorem Im.ok.len {w:World} {i:Im} (h:i.ok w):i.xs.length=i.n:=Rd.nats h.code
theorem Im.ok.below {w w':World} {i:Im} (h:i.ok w) (hb:Bw w w'):i.ok w':=⟨h.code.below hb,h.byt⟩
def Yes (w:World) (b:Bool) (e:Ending) (w':World):Prop:=e=.returned (.bool b)∧Bw w w'
structure Bx (w:World) (g:Nat) (i:Im) (wr:World):Prop where
 blk:Blk wr g 40 i.cells
 new_:w.heap.size≤g
 bel:Bw w wr
theorem Bx.new (w:World) (i:Im):Bx w w.heap.size i (w.alloc (.cells i.cells.toArray 40)):=⟨Blk.new w _ _,Mr _,(Mb _ _).alloc (Mr _) _⟩
theorem Bx.step {w wr w':World} {g:Nat} {i:Im} (h:Bx w g i wr) (hb:Bw wr w'):Bx w g i w':=⟨h.blk.below hb,h.new_,h.bel.trans (hb.mono h.bel.size)⟩
theorem Bx.alloc {w wr:World} {g:Nat} {i:Im} (h:Bx w g i wr) (o:Obj):Bx w g i (wr.alloc o):=h.step ((Mb _ _).alloc (Mr _) o)
theorem Bx.cell {w wr:World} {g:Nat} {i:Im} (h:Bx w g i wr):wr.cell? ⟨g,0,none⟩=some (.int .i64 i.p)∧wr.cell? ⟨g,1,none⟩=some (.int .i64 i.v)∧wr.cell? ⟨g,2,none⟩=some (.int .i64 i.h)∧wr.cell? ⟨g,3,none⟩=some (.int .i64 i.m)∧wr.cell? ⟨g,4,none⟩=some (.int .i64 i.f)∧wr.cell? ⟨g,5,none⟩=some (.int .i64 i.s)∧wr.cell? ⟨g,6,none⟩=some (.int .i64 i.r)∧wr.cell? ⟨g,7,none⟩=some (.slice i.A i.n i.c):=
 ⟨h.blk.cell rfl,h.blk.cell rfl,h.blk.cell rfl,h.blk.cell rfl,h.blk.cell rfl,h.blk.cell rfl,h.blk.cell rfl,h.blk.cell rfl⟩
theorem Bx.sz {w wr:World} {g:Nat} {i:Im} (h:Bx w g i wr):w.heap.size<wr.heap.size:=Nat.lt_of_le_of_lt h.new_ h.blk.lt
end ImgA
namespace ImgB
open Kit ImgA
def inn (n l m:Int):Bool:=decide (l≤n∧n≤m)
theorem inn_true {n l m:Int} (h:inn n l m=true):l≤n∧n≤m:=by simpa [inn] using h
theorem inn_false {n l m:Int} (h:inn n l m=false) : ¬(l≤n∧n≤m):=by simpa [inn] using h
theorem within_any (n l m:Int) (w:World):Calls Tryz.prog 69 #[.int .i64 n,.int .i64 l,.int .i64 m] w fun e w'=>e=.returned (.bool (inn n l m))∧w=w':=by
 unfold inn
 by_cases h:l≤n
 ·go_enter Tryz.func69,Tryz.ntmps69
  go_wp2
  go_ret
  exact⟨Q0 (by simp [h]),rfl⟩
 ·have h' : ¬(l≤n):=h
  go_enter Tryz.func69,Tryz.ntmps69
  go_wp2
  go_ret
  exact⟨Q0 (by rw [Bool.eq_iff_iff];simp;omega),rfl⟩
def right (i:Im):Prop:=(0≤i.p∧i.p≤3)∧(1≤i.v∧i.v≤65535)∧(0≤i.h∧i.h≤65535)∧(1≤i.m∧i.m≤16)∧(1≤i.f∧i.f≤32)∧(0≤i.s∧i.s≤15)∧(0≤i.r∧i.r≤15)∧(1≤(i.n:Int)∧(i.n:Int)≤96)
theorem right_any (i:Im) (w:World) (hn:i.n≤9223372036854775807) (b:Bool) (hb:b=true↔right i):Calls Tryz.prog 30 #[i.val] w (Yes w b):=by
 obtain⟨p,v,h,m,f,s,r,A,n,c,xs⟩:=i
 have HB:=Hz (show b=true↔(0≤p∧p≤3)∧(1≤v∧v≤65535)∧(0≤h∧h≤65535)∧(1≤m∧m≤16)∧(1≤f∧f≤32)∧(0≤s∧s≤15)∧(0≤r∧r≤15)∧(1≤(n:Int)∧(n:Int)≤96) from hb)
 clear hb
 have HX:=Hz (Bx.new w ⟨p,v,h,m,f,s,r,A,n,c,xs⟩)
 have HF:=Hz (show ∀q:Prop,(b=true→q)→¬q→b=false from fun q h hp=>by rw [Bool.eq_false_iff];exact fun hb=>hp (h hb))
 show Calls _ _ #[.agg #[.int .i64 p,.int .i64 v,.int .i64 h,.int .i64 m,.int .i64 f,.int .i64 s,.int .i64 r,.slice A n c]] w _
 cases s0:inn p 0 3
 ·have hbf:=Hz (HF.o _ (fun h=>(HB.o.1 h).1) (inn_false s0))
  go_enter Tryz.func30,Tryz.ntmps30
  go_wp2_with (go_at_call 69;refine (within_any _ _ _ _).mono ?_;rintro e w' ⟨rfl,rfl⟩)
  go_ret
  exact⟨by rw [hbf.o];rfl,HX.o.bel⟩
 ·skip
  cases s1:inn v 1 65535
  ·have hbf:=Hz (HF.o _ (fun h=>(HB.o.1 h).2.1) (inn_false s1))
   go_enter Tryz.func30,Tryz.ntmps30
   go_wp2_with (go_at_call 69;refine (within_any _ _ _ _).mono ?_;rintro e w' ⟨rfl,rfl⟩)
   go_ret
   exact⟨by rw [hbf.o];rfl,HX.o.bel⟩
  ·skip
   cases s2:inn h 0 65535
   ·have hbf:=Hz (HF.o _ (fun h=>(HB.o.1 h).2.2.1) (inn_false s2))
    go_enter Tryz.func30,Tryz.ntmps30
    go_wp2_with (go_at_call 69;refine (within_any _ _ _ _).mono ?_;rintro e w' ⟨rfl,rfl⟩)
    go_ret
    exact⟨by rw [hbf.o];rfl,HX.o.bel⟩
   ·skip
    cases s3:inn m 1 16
    ·have hbf:=Hz (HF.o _ (fun h=>(HB.o.1 h).2.2.2.1) (inn_false s3))
     go_enter Tryz.func30,Tryz.ntmps30
     go_wp2_with (go_at_call 69;refine (within_any _ _ _ _).mono ?_;rintro e w' ⟨rfl,rfl⟩)
     go_ret
     exact⟨by rw [hbf.o];rfl,HX.o.bel⟩
    ·skip
     cases s4:inn f 1 32
     ·have hbf:=Hz (HF.o _ (fun h=>(HB.o.1 h).2.2.2.2.1) (inn_false s4))
      go_enter Tryz.func30,Tryz.ntmps30
      go_wp2_with (go_at_call 69;refine (within_any _ _ _ _).mono ?_;rintro e w' ⟨rfl,rfl⟩)
      go_ret
      exact⟨by rw [hbf.o];rfl,HX.o.bel⟩
     ·skip
      cases s5:inn s 0 15
      ·have hbf:=Hz (HF.o _ (fun h=>(HB.o.1 h).2.2.2.2.2.1) (inn_false s5))
       go_enter Tryz.func30,Tryz.ntmps30
       go_wp2_with (go_at_call 69;refine (within_any _ _ _ _).mono ?_;rintro e w' ⟨rfl,rfl⟩)
       go_ret
       exact⟨by rw [hbf.o];rfl,HX.o.bel⟩
      ·skip
       cases s6:inn r 0 15
       ·have hbf:=Hz (HF.o _ (fun h=>(HB.o.1 h).2.2.2.2.2.2.1) (inn_false s6))
        go_enter Tryz.func30,Tryz.ntmps30
        go_wp2_with (go_at_call 69;refine (within_any _ _ _ _).mono ?_;rintro e w' ⟨rfl,rfl⟩)
        go_ret
        exact⟨by rw [hbf.o];rfl,HX.o.bel⟩
       ·skip
        cases s7:inn (n:Int) 1 96
        ·have hbf:=Hz (HF.o _ (fun h=>(HB.o.1 h).2.2.2.2.2.2.2) (inn_false s7))
         go_enter Tryz.func30,Tryz.ntmps30
         go_wp2_with (go_at_call 69;refine (within_any _ _ _ _).mono ?_;rintro e w' ⟨rfl,rfl⟩)
         go_ret
         exact⟨by rw [hbf.o];rfl,HX.o.bel⟩
        ·skip
         have hbt:=Hz (HB.o.2 ⟨inn_true s0,inn_true s1,inn_true s2,inn_true s3,inn_true s4,inn_true s5,inn_true s6,inn_true s7⟩)
         go_enter Tryz.func30,Tryz.ntmps30
         go_wp2_with (go_at_call 69;refine (within_any _ _ _ _).mono ?_;rintro e w' ⟨rfl,rfl⟩)
         go_ret
         exact⟨by rw [hbt.o];rfl,HX.o.bel⟩
theorem Vy (i:Im) (w:World) (hn:i.n≤9223372036854775807) (b:Bool) (hb:b=true↔right i):Calls Tryz.prog 57 #[i.val] w (Yes w b):=by
 obtain⟨p,v,h,m,f,s,r,A,n,c,xs⟩:=i
 have HB:=Hz (show b=true↔(0≤p∧p≤3)∧(1≤v∧v≤65535)∧(0≤h∧h≤65535)∧(1≤m∧m≤16)∧(1≤f∧f≤32)∧(0≤s∧s≤15)∧(0≤r∧r≤15)∧(1≤(n:Int)∧(n:Int)≤96) from hb)
 clear hb
 have HX:=Hz (Bx.new w ⟨p,v,h,m,f,s,r,A,n,c,xs⟩)
 have HF:=Hz (show ∀q:Prop,(b=true→q)→¬q→b=false from fun q h hp=>by rw [Bool.eq_false_iff];exact fun hb=>hp (h hb))
 show Calls _ _ #[.agg #[.int .i64 p,.int .i64 v,.int .i64 h,.int .i64 m,.int .i64 f,.int .i64 s,.int .i64 r,.slice A n c]] w _
 by_cases g0:p<0
 ·have hbf:=Hz (HF.o _ (fun h=>(HB.o.1 h).1) (by omega))
  go_enter Tryz.func57,Tryz.ntmps57
  go_wp2
  go_ret
  exact⟨by rw [hbf.o];rfl,HX.o.bel⟩
 ·skip
  by_cases g1:3<p
  ·have hbf:=Hz (HF.o _ (fun h=>(HB.o.1 h).1) (by omega))
   go_enter Tryz.func57,Tryz.ntmps57
   go_wp2
   go_ret
   exact⟨by rw [hbf.o];rfl,HX.o.bel⟩
  ·skip
   by_cases g2:v<1
   ·have hbf:=Hz (HF.o _ (fun h=>(HB.o.1 h).2.1) (by omega))
    go_enter Tryz.func57,Tryz.ntmps57
    go_wp2
    go_ret
    exact⟨by rw [hbf.o];rfl,HX.o.bel⟩
   ·skip
    by_cases g3:65535<v
    ·have hbf:=Hz (HF.o _ (fun h=>(HB.o.1 h).2.1) (by omega))
     go_enter Tryz.func57,Tryz.ntmps57
     go_wp2
     go_ret
     exact⟨by rw [hbf.o];rfl,HX.o.bel⟩
    ·skip
     by_cases g4:h<0
     ·have hbf:=Hz (HF.o _ (fun h=>(HB.o.1 h).2.2.1) (by omega))
      go_enter Tryz.func57,Tryz.ntmps57
      go_wp2
      go_ret
      exact⟨by rw [hbf.o];rfl,HX.o.bel⟩
     ·skip
      by_cases g5:65535<h
      ·have hbf:=Hz (HF.o _ (fun h=>(HB.o.1 h).2.2.1) (by omega))
       go_enter Tryz.func57,Tryz.ntmps57
       go_wp2
       go_ret
       exact⟨by rw [hbf.o];rfl,HX.o.bel⟩
      ·skip
       by_cases g6:m<1
       ·have hbf:=Hz (HF.o _ (fun h=>(HB.o.1 h).2.2.2.1) (by omega))
        go_enter Tryz.func57,Tryz.ntmps57
        go_wp2
        go_ret
        exact⟨by rw [hbf.o];rfl,HX.o.bel⟩
       ·skip
        by_cases g7:16<m
        ·have hbf:=Hz (HF.o _ (fun h=>(HB.o.1 h).2.2.2.1) (by omega))
         go_enter Tryz.func57,Tryz.ntmps57
         go_wp2
         go_ret
         exact⟨by rw [hbf.o];rfl,HX.o.bel⟩
        ·skip
         by_cases g8:f<1
         ·have hbf:=Hz (HF.o _ (fun h=>(HB.o.1 h).2.2.2.2.1) (by omega))
          go_enter Tryz.func57,Tryz.ntmps57
          go_wp2
          go_ret
          exact⟨by rw [hbf.o];rfl,HX.o.bel⟩
         ·skip
          by_cases g9:32<f
          ·have hbf:=Hz (HF.o _ (fun h=>(HB.o.1 h).2.2.2.2.1) (by omega))
           go_enter Tryz.func57,Tryz.ntmps57
           go_wp2
           go_ret
           exact⟨by rw [hbf.o];rfl,HX.o.bel⟩
          ·skip
           by_cases g10:s<0
           ·have hbf:=Hz (HF.o _ (fun h=>(HB.o.1 h).2.2.2.2.2.1) (by omega))
            go_enter Tryz.func57,Tryz.ntmps57
            go_wp2
            go_ret
            exact⟨by rw [hbf.o];rfl,HX.o.bel⟩
           ·skip
            by_cases g11:15<s
            ·have hbf:=Hz (HF.o _ (fun h=>(HB.o.1 h).2.2.2.2.2.1) (by omega))
             go_enter Tryz.func57,Tryz.ntmps57
             go_wp2
             go_ret
             exact⟨by rw [hbf.o];rfl,HX.o.bel⟩
            ·skip
             by_cases g12:r<0
             ·have hbf:=Hz (HF.o _ (fun h=>(HB.o.1 h).2.2.2.2.2.2.1) (by omega))
              go_enter Tryz.func57,Tryz.ntmps57
              go_wp2
              go_ret
              exact⟨by rw [hbf.o];rfl,HX.o.bel⟩
             ·skip
              by_cases g13:15<r
              ·have hbf:=Hz (HF.o _ (fun h=>(HB.o.1 h).2.2.2.2.2.2.1) (by omega))
               go_enter Tryz.func57,Tryz.ntmps57
               go_wp2
               go_ret
               exact⟨by rw [hbf.o];rfl,HX.o.bel⟩
              ·skip
               by_cases g14 : ¬1≤(n:Int)
               ·have hbf:=Hz (HF.o _ (fun h=>(HB.o.1 h).2.2.2.2.2.2.2) (by omega))
                go_enter Tryz.func57,Tryz.ntmps57
                go_wp2
                go_ret
                exact⟨by rw [hbf.o];rfl,HX.o.bel⟩
               ·skip
                by_cases g15 : ¬(n:Int)≤96
                ·have hbf:=Hz (HF.o _ (fun h=>(HB.o.1 h).2.2.2.2.2.2.2) (by omega))
                 go_enter Tryz.func57,Tryz.ntmps57
                 go_wp2
                 go_ret
                 exact⟨by rw [hbf.o];rfl,HX.o.bel⟩
                ·skip
                 have hbt:=Hz (HB.o.2 (by omega))
                 have k1:1≤(n:Int):=by omega
                 have k2:(n:Int)≤96:=by omega
                 go_enter Tryz.func57,Tryz.ntmps57
                 go_wp2
                 go_ret
                 exact⟨by rw [hbt.o];rfl,HX.o.bel⟩
end ImgB
namespace ImgP
open Kit Byt Mem Beq ShaM ShaE ImgA ImgB ImgS
def nums8 (i:Im):List Nat:=[76,73]++pbn i.p 1++pbn i.v 2++pbn i.h 2++pbn i.m 1++pbn i.f 1++pbn i.s 1++pbn i.r 1
def head (i:Im):List Nat:=nums8 i++(pbn (i.n:Int) 2++i.xs)
theorem qzj (i:Im):(nums8 i).length=11:=by simp only [nums8,Ma,Zh];rfl
theorem Zg (i:Im):(head i).length=13+i.xs.length:=by
 rw [head,Ma,Ma,qzj,Zh]
 show 11+(2+_)=_
 omega
theorem app_lt {xs ys:List Nat} (hx:by256 xs) (hy:by256 ys):by256 (xs++ys):=fun c hc=>by
 rcases List.mem_append.1 hc with h|h
 ·exact hx c h
 ·exact hy c h
theorem nums8_lt (i:Im):by256 (nums8 i):=by
 unfold nums8
 exact app_lt (app_lt (app_lt (app_lt (app_lt (app_lt (app_lt (by intro c hc;simp at hc;omega) (pbn_lt _ _)) (pbn_lt _ _)) (pbn_lt _ _)) (pbn_lt _ _)) (pbn_lt _ _)) (pbn_lt _ _)) (pbn_lt _ _)
theorem head_lt {i:Im} (h:by256 i.xs):by256 (head i):=app_lt (nums8_lt i) (app_lt (pbn_lt _ _) h)
theorem qw9 {xs:List Nat} {n:Nat} (hn:xs.length=n) (h:n≤65535):NumE.txt (nl xs)=nl (pbn (n:Int) 2++xs):=by
 rw [Xk,Y5]
 unfold NumE.txt
 rw [Ww,hn,Nat.min_eq_left h,Mt (by rw [Ww];omega)]
theorem put_no (i:Im) (w:World) (hn:i.n≤9223372036854775807) (hr : ¬right i):Calls Tryz.prog 9 #[i.val] w fun e w'=>e=.returned (.tuple #[.slice none 0 0,.int .i64 3])∧Bw w w':=by
 have HR:=Hz (fun w'=>right_any i w' hn false (by simpa using hr))
 have HX:=Hz (Bx.new w i)
 clear hr
 obtain⟨p,v,h,m,f,s,r,A,n,c,xs⟩:=i
 show Calls _ _ #[.agg #[.int .i64 p,.int .i64 v,.int .i64 h,.int .i64 m,.int .i64 f,.int .i64 s,.int .i64 r,.slice A n c]] w _
 go_enter Tryz.func9,Tryz.ntmps9
 go_wp2_with fail
 refine (HR.o _).mono ?_
 rintro e w1 ⟨rfl,hb1⟩
 have HX1:=Hz (HX.o.step hb1)
 clear hb1 HX
 go_wp2
 go_ret2
 exact⟨rfl,HX1.o.bel⟩
theorem size1:(Tryz.prog.info? 3).map (·.size)=some 1:=by kernel_rfl
def acc (b:List Int) (m f s r:Int):Nat→List Int
 | 0=>b
 | 1=>b++NumB.putb m 1
 | 2=>b++NumB.putb m 1++NumB.putb f 1
 | 3=>b++NumB.putb m 1++NumB.putb f 1++NumB.putb s 1
 | _=>b++NumB.putb m 1++NumB.putb f 1++NumB.putb s 1++NumB.putb r 1
theorem wd1:NumA.wd 1=1:=rfl
theorem wd2:NumA.wd 2=2:=rfl
theorem fresh_rd {w w':World} {A:Option Addr} {n c:Nat} {xs:List Int} (h:w'.ownsRow w.heap.size 5 1 (.slice A n c) n (NumA.u8s xs)):Rd w' A n c (NumA.u8s xs):=Rd.own h
theorem Nt (i:Im) (w:World) (hT:Tab w) (ho:i.ok w) (hr:right i):Calls Tryz.prog 9 #[i.val] w fun e w'=>∃B m d,e=.returned (.tuple #[.slice B m d,.int .i64 0])∧w'.ownsRow w.heap.size 5 1 (.slice B m d) m (u8n (closed (head i)))∧Bw w w':=by
 have hn:i.xs.length=i.n:=ho.len
 have h96:i.n≤96:=by have:=hr.2.2.2.2.2.2.2;omega
 have HR:=Hz (fun w'=>right_any i w' (by omega) true (by simpa using hr))
 have HX:=Hz (Bx.new w i)
 have HO:=Hz ho
 have HT:=Hz hT
 have HH:=Hz (show nl (head i)=[76,73]++NumB.putb i.p 1++NumB.putb i.v 2++NumB.putb i.h 2++NumB.putb i.m 1++NumB.putb i.f 1++NumB.putb i.s 1++NumB.putb i.r 1++NumE.txt (nl i.xs) from by
  rw [head,Xk,←qw9 hn (by omega)]
  simp only [nums8,Xk,Y5]
  rfl)
 have HL:=Hz (head_lt (i:=i) ho.byt)
 have HLN:=Hz (show (head i).length≤100000 from by rw [Zg];omega)
 have HRD:=Hz (show Rd w i.A i.n i.c (NumA.u8s (nl i.xs)) from by rw [←J7];exact ho.code)
 clear hr ho hT
 generalize head i=hd at *
 obtain⟨p,v,h,m,f,s,r,A,n,c,xs⟩:=i
 dsimp only at HH HRD hn h96
 show Calls _ _ #[.agg #[.int .i64 p,.int .i64 v,.int .i64 h,.int .i64 m,.int .i64 f,.int .i64 s,.int .i64 r,.slice A n c]] w _
 have kc:=fun (w:World) (C:Array Value) (n c:Nat)=>Lib.run_convert_bytes_const (P:=Tryz.prog) w 38 5 C n c Tryz.underlying38 Tryz.underlying5
 go_enter Tryz.func9,Tryz.ntmps9
 go_wp2_with fail
 refine (HR.o _).mono ?_
 rintro e w1 ⟨rfl,hb1⟩
 have HX1:=Hz (HX.o.step hb1)
 clear hb1 HX
 obtain⟨y0,y1,y2,y3,y4,y5,y6,y7⟩:=HX1.o.cell
 dsimp only at y0 y1 y2 y3 y4 y5 y6 y7
 have hsz:=HX1.o.sz
 go_wp2_with fail
 have HX2:=Hz (HX1.o.alloc (.cells #[.int .u8 76,.int .u8 73] 5 (2,3)))
 have HR2:=Hz (show Rd (w1.alloc (.cells #[.int .u8 76,.int .u8 73] 5 (2,3))) (some ⟨w1.heap.size,0,none⟩) 2 2 (NumA.u8s [76,73]) from CrcD.Rd.cells w1 [76,73] 5 (m:=(2,3)) rfl (by omega))
 refine (NumB.put_any _ 2 2 [76,73] p 1 _ HR2.o (by omega)).mono ?_
 rintro e w3 ⟨A3,n3,c3,hn3,rfl,ho3,hb3⟩
 have HX3:=Hz (HX2.o.step hb3)
 have HR3:=Hz (fresh_rd ho3)
 clear hb3 ho3 hn3 y0 y1 y2 y3 y4 y5 y6 y7 HX1 HX2 HR2 hsz
 obtain⟨y0,y1,y2,y3,y4,y5,y6,y7⟩:=HX3.o.cell
 dsimp only at y0 y1 y2 y3 y4 y5 y6 y7
 go_wp2_with fail
 refine (NumB.put_any A3 n3 c3 ([76,73]++NumB.putb p 1) v 2 _ HR3.o (by have:=NumA.Rd.bytes HR3.o;simp only [Ma,NumB.Jg,wd1,wd2,List.length_cons,List.length_nil] at this;omega)).mono ?_
 rintro e w4 ⟨A4,n4,c4,hn4,rfl,ho4,hb4⟩
 have HX4:=Hz (HX3.o.step hb4)
 have HR4:=Hz (fresh_rd ho4)
 clear hb4 ho4 hn4 y0 y1 y2 y3 y4 y5 y6 y7 HX3 HR3
 obtain⟨y0,y1,y2,y3,y4,y5,y6,y7⟩:=HX4.o.cell
 dsimp only at y0 y1 y2 y3 y4 y5 y6 y7
 go_wp2_with fail
 refine (NumB.put_any A4 n4 c4 ([76,73]++NumB.putb p 1++NumB.putb v 2) h 2 _ HR4.o (by have:=NumA.Rd.bytes HR4.o;simp only [Ma,NumB.Jg,wd1,wd2,List.length_cons,List.length_nil] at this;omega)).mono ?_
 rintro e w5 ⟨A5,n5,c5,hn5,rfl,ho5,hb5⟩
 have HX5:=Hz (HX4.o.step hb5)
 have HR5:=Hz (fresh_rd ho5)
 clear hb5 ho5 hn5 y0 y1 y2 y3 y4 y5 y6 y7 HX4 HR4
 obtain⟨y0,y1,y2,y3,y4,y5,y6,y7⟩:=HX5.o.cell
 dsimp only at y0 y1 y2 y3 y4 y5 y6 y7
 obtain⟨L,hL⟩:∃L,L=[76,73]++NumB.putb p 1++NumB.putb v 2++NumB.putb h 2:=⟨_,rfl⟩
 rw [←hL] at HR5
 have HLL:=Hz (show L.length=7 from by rw [hL];simp only [Ma,NumB.Jg,wd1,wd2,List.length_cons,List.length_nil])
 have HHL:=Hz (show nl hd=acc L m f s r 4++NumE.txt (nl xs) from by rw [HH.o,hL];rfl)
 have hn5:n5=7:=by have:=NumA.Rd.bytes HR5.o;have:=HLL.o;omega
 have HN5:=Hz hn5
 clear hL HH hn5
 go_wp2_with fail
 clear y0 y1 y2 y3 y4 y5 y6 y7
 go_loopw [4,6,32] (fun o q i wr=>∃(k:Nat) (B:Option Addr) (n' d:Nat),k≤4∧i=.int .i64 k∧o=.slice B n' d∧n'≤7+k∧Hid (Rd wr B n' d (NumA.u8s (acc L m f s r k)))∧Hid (Bx w w.heap.size ⟨p,v,h,m,f,s,r,A,n,c,xs⟩ wr)) (fun _ _ i _=>4-(intOf i).toNat)
 case atStart=>exact⟨0,A5,n5,c5,by omega,rfl,rfl,by have:=HN5.o;omega,HR5,HX5⟩
 case round=>
  obtain⟨k,B,n',d,hk,rfl,rfl,hnk,HRk,HXk⟩:=hrel
  match k,hk with
  | 0,_=>
    have HC:=Hz (NumB.put_any B n' d (acc L m f s r 0) m 1 wr HRk.o (by omega))
    have hix:∀w,(Instr.index 74 (.agg #[.int .i64 m,.int .i64 f,.int .i64 s,.int .i64 r]) (.int .i64 0)).run Tryz.prog w=.ok (.int .i64 m) w:=fun w=>Jj (k:=0) (xs:=[.int .i64 m,.int .i64 f,.int .i64 s,.int .i64 r]) Tryz.underlying74 ⟨_,Tryz.underlying3⟩ size1 (by omega) rfl w
    go_wp2_with (go_at_call 31;refine HC.o.mono ?_;rintro e w6 ⟨A6,n6,c6,hn6,rfl,ho6,hb6⟩)
    have HN6:=Hz (show n6≤7+1 from by have h1:=hn6.o;have h2:=NumA.Rd.bytes HRk.o;rw [Ma,NumB.Jg,wd1] at h1;omega)
    clear hn6
    go_roundw
    case rel=>exact⟨1,A6,n6,c6,by omega,rfl,rfl,HN6.o,Hz (fresh_rd ho6),Hz (HXk.o.step hb6)⟩
    case measure=>simp [intOf]
  | 1,_=>
    have HC:=Hz (NumB.put_any B n' d (acc L m f s r 1) f 1 wr HRk.o (by omega))
    have hix:∀w,(Instr.index 74 (.agg #[.int .i64 m,.int .i64 f,.int .i64 s,.int .i64 r]) (.int .i64 1)).run Tryz.prog w=.ok (.int .i64 f) w:=fun w=>Jj (k:=1) (xs:=[.int .i64 m,.int .i64 f,.int .i64 s,.int .i64 r]) Tryz.underlying74 ⟨_,Tryz.underlying3⟩ size1 (by omega) rfl w
    go_wp2_with (go_at_call 31;refine HC.o.mono ?_;rintro e w6 ⟨A6,n6,c6,hn6,rfl,ho6,hb6⟩)
    have HN6:=Hz (show n6≤7+2 from by have h1:=hn6.o;have h2:=NumA.Rd.bytes HRk.o;rw [Ma,NumB.Jg,wd1] at h1;omega)
    clear hn6
    go_roundw
    case rel=>exact⟨2,A6,n6,c6,by omega,rfl,rfl,HN6.o,Hz (fresh_rd ho6),Hz (HXk.o.step hb6)⟩
    case measure=>simp [intOf]
  | 2,_=>
    have HC:=Hz (NumB.put_any B n' d (acc L m f s r 2) s 1 wr HRk.o (by omega))
    have hix:∀w,(Instr.index 74 (.agg #[.int .i64 m,.int .i64 f,.int .i64 s,.int .i64 r]) (.int .i64 2)).run Tryz.prog w=.ok (.int .i64 s) w:=fun w=>Jj (k:=2) (xs:=[.int .i64 m,.int .i64 f,.int .i64 s,.int .i64 r]) Tryz.underlying74 ⟨_,Tryz.underlying3⟩ size1 (by omega) rfl w
    go_wp2_with (go_at_call 31;refine HC.o.mono ?_;rintro e w6 ⟨A6,n6,c6,hn6,rfl,ho6,hb6⟩)
    have HN6:=Hz (show n6≤7+3 from by have h1:=hn6.o;have h2:=NumA.Rd.bytes HRk.o;rw [Ma,NumB.Jg,wd1] at h1;omega)
    clear hn6
    go_roundw
    case rel=>exact⟨3,A6,n6,c6,by omega,rfl,rfl,HN6.o,Hz (fresh_rd ho6),Hz (HXk.o.step hb6)⟩
    case measure=>simp [intOf]
  | 3,_=>
    have HC:=Hz (NumB.put_any B n' d (acc L m f s r 3) r 1 wr HRk.o (by omega))
    have hix:∀w,(Instr.index 74 (.agg #[.int .i64 m,.int .i64 f,.int .i64 s,.int .i64 r]) (.int .i64 3)).run Tryz.prog w=.ok (.int .i64 r) w:=fun w=>Jj (k:=3) (xs:=[.int .i64 m,.int .i64 f,.int .i64 s,.int .i64 r]) Tryz.underlying74 ⟨_,Tryz.underlying3⟩ size1 (by omega) rfl w
    go_wp2_with (go_at_call 31;refine HC.o.mono ?_;rintro e w6 ⟨A6,n6,c6,hn6,rfl,ho6,hb6⟩)
    have HN6:=Hz (show n6≤7+4 from by have h1:=hn6.o;have h2:=NumA.Rd.bytes HRk.o;rw [Ma,NumB.Jg,wd1] at h1;omega)
    clear hn6
    go_roundw
    case rel=>exact⟨4,A6,n6,c6,by omega,rfl,rfl,HN6.o,Hz (fresh_rd ho6),Hz (HXk.o.step hb6)⟩
    case measure=>simp [intOf]
  | 4,_=>
    obtain⟨y0,y1,y2,y3,y4,y5,y6,y7⟩:=HXk.o.cell
    dsimp only at y0 y1 y2 y3 y4 y5 y6 y7
    have HTX:=Hz (NumE.K8 B n' d (acc L m f s r 4) A n c (nl xs) wr HRk.o (HRD.o.below HXk.o.bel) (by omega))
    go_wp2_with fail
    refine HTX.o.mono ?_
    rintro e w7 ⟨A7,n7,c7,hn7,rfl,ho7,hb7⟩
    have HX7:=Hz (HXk.o.step hb7)
    have HR7:=Hz (show Rd w7 A7 n7 c7 (u8n hd) from by rw [J7,HHL.o];exact fresh_rd ho7)
    clear hn7 ho7 hb7 y0 y1 y2 y3 y4 y5 y6 y7
    have HSE:=Hz (sealed_any A7 n7 c7 hd w7 (HT.o.below HX7.o.bel HT.o.1) HR7.o HL.o HLN.o)
    go_wp2_with fail
    refine HSE.o.mono ?_
    rintro e w8 ⟨B8,m8,d8,rfl,ho8,hb8⟩
    have HX8:=Hz (HX7.o.step hb8)
    have HO8:=Hz (own_mono ho8 HX7.o.bel.size)
    clear ho8 hb8
    go_wp2
    go_ret2
    exact⟨B8,m8,d8,rfl,HO8.o,HX8.o.bel⟩
end ImgP
namespace TabR
open Kit NumA
theorem end_ok (b:Nat) (w:World) (h:St w b [] 0) :
 Calls Tryz.prog 176 #[.pointer (some ⟨b,0,none⟩)] w fun e w'=>e=.returned (.int .i64 0)∧w=w':=by
 obtain⟨A,n,c,h,hr0,_⟩:=h
 have h0:=two0 h
 have h1:=two1 h
 obtain rfl:n=0:=by have:=Rd.bytes hr0;simpa using this.symm
 clear h hr0
 go_enter Tryz.func176,Tryz.ntmps176
 go_wp2
 go_ret
 exact⟨rfl,rfl⟩
theorem qzk (b:Nat) (xs:List Int) (e:Int) (w:World) (h:St w b xs e) (he:(e != 0)=true) :
 Calls Tryz.prog 176 #[.pointer (some ⟨b,0,none⟩)] w fun f w'=>f=.returned (.int .i64 e)∧w=w':=by
 obtain⟨A,n,c,h,hr0,_⟩:=h
 have h1:=two1 h
 clear h hr0
 go_enter Tryz.func176,Tryz.ntmps176
 go_wp2
 go_ret
 exact⟨rfl,rfl⟩
theorem qxt (b:Nat) (xs:List Int) (w:World) (h:St w b xs 0) (hx:0<xs.length) :
 Calls Tryz.prog 176 #[.pointer (some ⟨b,0,none⟩)] w fun e w'=>e=.returned (.int .i64 2)∧w=w':=by
 obtain⟨A,n,c,h,hr0,_⟩:=h
 have h0:=two0 h
 have h1:=two1 h
 have hn:0<n:=by have:=Rd.bytes hr0;omega
 have hn2:n≤9223372036854775807:=by have:=hr0.2.1;have:=hr0.2.2.1;omega
 clear h hr0
 go_enter Tryz.func176,Tryz.ntmps176
 go_wp2
 go_ret
 exact⟨rfl,rfl⟩
theorem end_any (b:Nat) (xs:List Int) (e:Int) (w:World) (h:St w b xs e) :
 Calls Tryz.prog 176 #[.pointer (some ⟨b,0,none⟩)] w fun f w'=>f=.returned (.int .i64 (endN xs e))∧w=w':=by
 unfold endN
 by_cases he:e=0
 ·subst he
  rw [if_neg (by simp)]
  cases xs with
  | nil=>rw [if_pos rfl];exact end_ok b w h
  | cons x xs=>rw [if_neg (by simp)];exact qxt b _ w h (by simp)
 ·rw [if_pos he]
  exact qzk b xs e w h (by simpa using he)
end TabR
namespace TxtR
open Kit NumA NumB TabR
def Newer (w:World) (A:Option Addr) (n:Nat):Prop:=0<n→∀b o,A=some ⟨b,o,none⟩→w.heap.size≤b
theorem Nn {w w1 w2:World} {e:TypeId} {A:Option Addr} {n c:Nat} {xs:List Value} (h:w2.ownsRow w1.heap.size e 1 (.slice A n c) n xs) (hs:w.heap.size≤w1.heap.size):Newer w A n:=fun _ b o hA=>by
 have:=(h.lt b (by rw [hA];rfl)).1
 omega
def Gav (w:World) (b:Nat) (ys xs:List Int) (x:Int) (e:Ending) (w':World):Prop:=
 ∃A n c,e=.returned (.slice A n c)∧Rd w' A n c (u8s ys)∧St w' b xs x∧w.grownBy w' (some b)∧Newer w A n
theorem bytes_ok (b k:Nat) (xs:List Int) (w:World) (h:St w b xs 0) (hk:k≤xs.length) (hl:k≤100000000000000) :
 Calls Tryz.prog 197 #[.pointer (some ⟨b,0,none⟩),.int .i64 k] w (Gav w b (xs.take k) (xs.drop k) 0):=by
 have S:Hid (St w b xs 0):=h
 obtain⟨A,n,c,h,hr0,_⟩:=h
 have H:Hid (w.heap[b]?=some (.cells #[.slice A n c,.int .i64 0] 264 (0,0))):=h
 clear h hr0
 go_enter Tryz.func197,Tryz.ntmps197
 go_wp2_with (first
  | (go_at_call 195;refine (next_no _ _ _ _ _ H.o).mono ?_;rintro e w' ⟨rfl,rfl⟩)
  | (go_at_call 215;refine (goOn_ok b k xs w S.o hk).mono ?_;rintro e w1 ⟨A1,n1,c1,rfl,hr1,hs1,hd1⟩;have hn1:n1≤100000000000000:=by have:=Rd.bytes hr1;simp at this;omega)
  | (go_at_call 111;refine (clone_any _ _ _ _ _ hr1 hn1).mono ?_;rintro e w2 ⟨A2,n2,c2,hn2,rfl,hown2,hb2⟩))
 go_ret
 exact⟨A2,n2,c2,rfl,Rd.own hown2,St.below hs1 hb2,Vu hd1 (did_below hb2 _),Nn hown2 hd1.size⟩
theorem bytes_short (b k:Nat) (xs:List Int) (w:World) (h:St w b xs 0) (hk:xs.length<k) (hl:k≤100000000000000) :
 Calls Tryz.prog 197 #[.pointer (some ⟨b,0,none⟩),.int .i64 k] w (Gav w b [] xs 1):=by
 have S:Hid (St w b xs 0):=h
 obtain⟨A,n,c,h,hr0,_⟩:=h
 have H:Hid (w.heap[b]?=some (.cells #[.slice A n c,.int .i64 0] 264 (0,0))):=h
 clear h hr0
 go_enter Tryz.func197,Tryz.ntmps197
 go_wp2_with (first
  | (go_at_call 195;refine (next_no _ _ _ _ _ H.o).mono ?_;rintro e w' ⟨rfl,rfl⟩)
  | (go_at_call 215;refine (goOn_short b k xs w S.o hk (by omega)).mono ?_;rintro e w1 ⟨A1,n1,c1,rfl,hr1,hs1,hd1⟩;have hn1:n1≤100000000000000:=by have:=Rd.bytes hr1;simp at this;omega)
  | (go_at_call 111;refine (clone_any _ _ _ _ _ hr1 hn1).mono ?_;rintro e w2 ⟨A2,n2,c2,hn2,rfl,hown2,hb2⟩))
 go_ret
 exact⟨A2,n2,c2,rfl,Rd.own hown2,St.below hs1 hb2,Vu hd1 (did_below hb2 _),Nn hown2 hd1.size⟩
theorem bytes_fault (b:Nat) (x:Int) (xs:List Int) (e:Int) (w:World) (h:St w b xs e) (he:(e != 0)=true) :
 Calls Tryz.prog 197 #[.pointer (some ⟨b,0,none⟩),.int .i64 x] w (Gav w b [] xs e):=by
 have S:Hid (St w b xs e):=h
 obtain⟨A,n,c,h,hr0,_⟩:=h
 have H:Hid (w.heap[b]?=some (.cells #[.slice A n c,.int .i64 e] 264 (0,0))):=h
 clear h hr0
 go_enter Tryz.func197,Tryz.ntmps197
 go_wp2_with (first
  | (go_at_call 195;refine (next_yes _ _ _ _ _ _ H.o he).mono ?_;rintro e w' ⟨rfl,rfl⟩)
  | (go_at_call 214;refine (stay_any _ _ _).mono ?_;rintro e w' ⟨rfl,rfl⟩)
  | (go_at_call 111;refine (clone_any none 0 0 [] _ (Rd.nil _) (by omega)).mono ?_;rintro e w2 ⟨A2,n2,c2,hn2,rfl,hown2,hb2⟩))
 all_goals (go_ret;exact⟨A2,n2,c2,rfl,Rd.own hown2,St.below S.o hb2,did_below hb2 _,Nn hown2 (Mr _)⟩)
theorem text_ok (b k most:Nat) (xs:List Int) (w:World) (h:St w b xs 0) (h2:2≤xs.length) (h8:∀u ∈ xs,0≤u∧u≤255) (hk:num (xs.take 2)=k) (hm:k≤most) (hl:2+k≤xs.length) (hkl:k≤100000000000000) :
 Calls Tryz.prog 175 #[.pointer (some ⟨b,0,none⟩),.int .i64 most] w (Gav w b ((xs.drop 2).take k) ((xs.drop 2).drop k) 0):=by
 have S:Hid (St w b xs 0):=h
 have HK:Hid (num (xs.take 2)=k):=hk
 have H8:Hid (∀u ∈ xs,0≤u∧u≤255):=h8
 clear h hk h8
 go_enter Tryz.func175,Tryz.ntmps175
 go_wp2_with (first
  | (go_at_call 174;refine (num_ok b 2 xs w S.o (by rw [Ug];exact h2) H8.o).mono ?_;rw [Ug,HK.o];rintro e w1 ⟨rfl,hs1,hd1⟩)
  | (go_at_call 197;refine (bytes_ok b k (xs.drop 2) _ hs1 (by simp;omega) hkl).mono ?_;rintro e w2 ⟨A2,n2,c2,rfl,hr2,hs2,hd2,hq2⟩))
 go_ret
 exact⟨A2,n2,c2,rfl,hr2,hs2,Vu hd1 hd2,fun h b o hA=>Ml hd1.size (hq2 h b o hA)⟩
theorem Nl (b most:Nat) (xs:List Int) (w:World) (h:St w b xs 0) (h2:xs.length<2) :
 Calls Tryz.prog 175 #[.pointer (some ⟨b,0,none⟩),.int .i64 most] w (Gav w b [] xs 1):=by
 have S:Hid (St w b xs 0):=h
 clear h
 go_enter Tryz.func175,Tryz.ntmps175
 go_wp2_with (first
  | (go_at_call 174;refine (num_short b 2 xs w S.o (by rw [Ug];exact h2)).mono ?_;rintro e w1 ⟨rfl,hs1,hd1⟩)
  | (go_at_call 197;refine (bytes_fault b 0 xs 1 _ hs1 (by decide)).mono ?_;rintro e w2 ⟨A2,n2,c2,rfl,hr2,hs2,hd2,hq2⟩))
 go_ret
 exact⟨A2,n2,c2,rfl,hr2,hs2,Vu hd1 hd2,fun h b o hA=>Ml hd1.size (hq2 h b o hA)⟩
theorem Nh (b k most:Nat) (xs:List Int) (w:World) (h:St w b xs 0) (h2:2≤xs.length) (h8:∀u ∈ xs,0≤u∧u≤255) (hk:num (xs.take 2)=k) (hm:k≤most) (hl:xs.length<2+k) (hkl:k≤100000000000000) :
 Calls Tryz.prog 175 #[.pointer (some ⟨b,0,none⟩),.int .i64 most] w (Gav w b [] (xs.drop 2) 1):=by
 have S:Hid (St w b xs 0):=h
 have HK:Hid (num (xs.take 2)=k):=hk
 have H8:Hid (∀u ∈ xs,0≤u∧u≤255):=h8
 clear h hk h8
 go_enter Tryz.func175,Tryz.ntmps175
 go_wp2_with (first
  | (go_at_call 174;refine (num_ok b 2 xs w S.o (by rw [Ug];exact h2) H8.o).mono ?_;rw [Ug,HK.o];rintro e w1 ⟨rfl,hs1,hd1⟩)
  | (go_at_call 197;refine (bytes_short b k (xs.drop 2) _ hs1 (by simp;omega) hkl).mono ?_;rintro e w2 ⟨A2,n2,c2,rfl,hr2,hs2,hd2,hq2⟩))
 go_ret
 exact⟨A2,n2,c2,rfl,hr2,hs2,Vu hd1 hd2,fun h b o hA=>Ml hd1.size (hq2 h b o hA)⟩
theorem qq4 (b most:Nat) (xs:List Int) (e:Int) (w:World) (h:St w b xs e) (he:(e != 0)=true) :
 Calls Tryz.prog 175 #[.pointer (some ⟨b,0,none⟩),.int .i64 most] w (Gav w b [] xs e):=by
 have S:Hid (St w b xs e):=h
 clear h
 go_enter Tryz.func175,Tryz.ntmps175
 go_wp2_with (first
  | (go_at_call 174;refine (num_fault b 2 xs e w S.o he).mono ?_;rintro e w1 ⟨rfl,hs1,hd1⟩)
  | (go_at_call 197;refine (bytes_fault b 0 xs e _ hs1 he).mono ?_;rintro e w2 ⟨A2,n2,c2,rfl,hr2,hs2,hd2,hq2⟩))
 go_ret
 exact⟨A2,n2,c2,rfl,hr2,hs2,Vu hd1 hd2,fun h b o hA=>Ml hd1.size (hq2 h b o hA)⟩
def rtx (xs:List Int) (e:Int):List Int×List Int×Int:=
 if e≠0 then ([],xs,e) else if xs.length<2 then ([],xs,1) else if 2+(num (xs.take 2)).toNat≤xs.length then ((xs.drop 2).take (num (xs.take 2)).toNat,(xs.drop 2).drop (num (xs.take 2)).toNat,0) else ([],xs.drop 2,1)
theorem num_two {xs:List Int} (h2:2≤xs.length) (h8:∀u ∈ xs,0≤u∧u≤255):0≤num (xs.take 2)∧num (xs.take 2)≤65535:=by
 match xs,h2 with
 | x :: y :: zs,_=>
   have h1:=h8 x (by simp)
   have h2:=h8 y (by simp)
   simp [num]
   omega
theorem K8 (b:Nat) (xs:List Int) (e:Int) (w:World) (h:St w b xs e) (h8:∀u ∈ xs,0≤u∧u≤255) :
 Calls Tryz.prog 175 #[.pointer (some ⟨b,0,none⟩),.int .i64 65535] w (Gav w b (rtx xs e).1 (rtx xs e).2.1 (rtx xs e).2.2):=by
 unfold rtx
 by_cases he:e=0
 ·subst he
  rw [if_neg (by simp)]
  by_cases h2:xs.length<2
  ·rw [if_pos h2]
   exact Nl b 65535 xs w h h2
  ·rw [if_neg h2]
   have hb:=num_two (by omega) h8
   have hk:num (xs.take 2)=((num (xs.take 2)).toNat:Int):=by omega
   by_cases hl:2+(num (xs.take 2)).toNat≤xs.length
   ·rw [if_pos hl]
    exact text_ok b _ 65535 xs w h (by omega) h8 hk (by omega) hl (by omega)
   ·rw [if_neg hl]
    exact Nh b _ 65535 xs w h (by omega) h8 hk (by omega) (by omega) (by omega)
 ·rw [if_pos he]
  exact qq4 b 65535 xs e w h (by simpa using he)
theorem cl_lt (k:Nat) (n:Int):cl k n<2 ^ (8*k):=by have:=V9 k;unfold cl;omega
theorem qxu {k j m:Nat} (hj:j<k):m/2 ^ (8*(k-(j+1)))=256*(m/2 ^ (8*(k-j)))+m/2 ^ (8*(k-1-j))%256:=by
 have e1:k-(j+1)=k-1-j:=by omega
 have e2:8*(k-j)=8*(k-1-j)+8:=by omega
 rw [e1,e2,Nat.pow_add,←Nat.div_div_eq_div_mul]
 omega
theorem qqg {k m:Nat} (hm:m<2 ^ (8*k)):∀j,j≤k→num ((be k m).take j)=((m/2 ^ (8*(k-j)):Nat):Int)
 | 0,_=>by
   rw [Nat.sub_zero,Nat.div_eq_of_lt hm]
   rfl
 | j+1,h=>by
   have hl:j<(be k m).length:=by rw [Wy];omega
   rw [qqe hl,qqg hm j (by omega),qxu (by omega)]
   simp only [be,List.getElem_map,List.getElem_range]
   omega
theorem num_be {k m:Nat} (hm:m<2 ^ (8*k)):num (be k m)=m:=by
 have h:=qqg hm k (Mr _)
 rw [Mt (by rw [Wy];omega),Nat.sub_self,Nat.mul_zero,Nat.pow_zero,Nat.div_one] at h
 exact h
theorem qqh (n x:Int):num (putb n x)=(cl (wd x) n:Nat):=num_be (cl_lt _ _)
theorem qzl {k:Nat} {q x:Int} (hk:wd q=k) (h0:0≤x) (h1:x≤((2 ^ (8*k)-1:Nat):Int)) (ys:List Int):rdN k (putb x q++ys) 0=(x,ys,0):=by
 have hl:(putb x q).length=k:=by rw [Jg,hk]
 have hn:num (putb x q)=x:=by rw [qqh,hk];unfold cl;omega
 unfold rdN
 rw [if_neg (by simp),if_pos (by simp [hl])]
 rw [List.take_left' hl,List.drop_left' hl,hn]
theorem Tk {x:Int} (h0:0≤x) (h1:x≤255) (ys:List Int):rdN 1 (putb x 1++ys) 0=(x,ys,0):=qzl (k:=1) (q:=1) rfl h0 (by have h:((2 ^ (8*1)-1:Nat):Int)=255:=rfl;rw [h];exact h1) ys
theorem rdN_p2 {x:Int} (h0:0≤x) (h1:x≤65535) (ys:List Int):rdN 2 (putb x 2++ys) 0=(x,ys,0):=qzl (k:=2) (q:=2) rfl h0 (by have h:((2 ^ (8*2)-1:Nat):Int)=65535:=rfl;rw [h];exact h1) ys
theorem rtx_put {cs:List Int} (h1:cs.length≤65535):rtx (putb (cs.length:Int) 2++cs) 0=(cs,[],0):=by
 have hl:(putb (cs.length:Int) 2).length=2:=by rw [Jg];rfl
 have hn:num (putb (cs.length:Int) 2)=(cs.length:Int):=by
  rw [qqh]
  have h2:wd 2=2:=rfl
  rw [h2]
  unfold cl
  have h:(2:Nat) ^ (8*2)-1=65535:=rfl
  rw [h];omega
 unfold rtx
 rw [List.take_left' hl,hn,List.drop_left' hl]
 simp [hl]
end TxtR
namespace ImgT
open Beq ShaM TabR TxtR ImgS
structure Ig where
 (p v h m f s r:Int)
 xs:List Nat
 e:Int
def Ig.no (e:Int):Ig:=⟨0,0,0,0,0,0,0,[],e⟩
def Ig.right (i:Ig):Prop:=(0≤i.p∧i.p≤3)∧(1≤i.v∧i.v≤65535)∧(0≤i.h∧i.h≤65535)∧(1≤i.m∧i.m≤16)∧(1≤i.f∧i.f≤32)∧(0≤i.s∧i.s≤15)∧(0≤i.r∧i.r≤15)∧(1≤(i.xs.length:Int)∧(i.xs.length:Int)≤96)
instance (i:Ig):Decidable i.right:=by unfold Ig.right;infer_instance
def q1 (z:List Nat):=rdN 1 (nl z) 0
def q2 (z:List Nat):=rdN 2 (q1 z).2.1 (q1 z).2.2
def q3 (z:List Nat):=rdN 2 (q2 z).2.1 (q2 z).2.2
def q4 (z:List Nat):=rdN 1 (q3 z).2.1 (q3 z).2.2
def q5 (z:List Nat):=rdN 1 (q4 z).2.1 (q4 z).2.2
def q6 (z:List Nat):=rdN 1 (q5 z).2.1 (q5 z).2.2
def q7 (z:List Nat):=rdN 1 (q6 z).2.1 (q6 z).2.2
def q8 (z:List Nat):=rtx (q7 z).2.1 (q7 z).2.2
def rdI (z:List Nat):Ig:=⟨(q1 z).1,(q2 z).1,(q3 z).1,(q4 z).1,(q5 z).1,(q6 z).1,(q7 z).1,(q8 z).1.map Int.toNat,endN (q8 z).2.1 (q8 z).2.2⟩
def iG (ys:List Nat):Ig:=
 if ys.length<36 then Ig.no 1 else if ys≠closed (ys.take (ys.length-36)) then Ig.no 10 else if (ys.take (ys.length-36)).take 2≠[76,73] then Ig.no 2
 else if (rdI ((ys.take (ys.length-36)).drop 2)).e≠0 then Ig.no (rdI ((ys.take (ys.length-36)).drop 2)).e
 else if (rdI ((ys.take (ys.length-36)).drop 2)).right then rdI ((ys.take (ys.length-36)).drop 2) else Ig.no 3
theorem nl_bytes {z:List Nat} (h:by256 z):∀u ∈ nl z,0≤u∧u≤255:=by
 intro u hu
 simp only [nl,List.mem_map] at hu
 obtain⟨q,hq,rfl⟩:=hu
 have:=h q hq
 omega
theorem qzm {xs:List Int} {e:Int} (h:∀u ∈ xs,0≤u∧u≤255):∀u ∈ (rtx xs e).1,0≤u∧u≤255:=by
 unfold rtx
 repeat' split
 ·exact fun u hu=>by cases hu
 ·exact fun u hu=>by cases hu
 ·exact fun u hu=>h u (List.mem_of_mem_drop (List.mem_of_mem_take hu))
 ·exact fun u hu=>by cases hu
theorem q_bytes {z:List Nat} (h:by256 z):(∀u ∈ (q1 z).2.1,0≤u∧u≤255)∧(∀u ∈ (q2 z).2.1,0≤u∧u≤255)∧(∀u ∈ (q3 z).2.1,0≤u∧u≤255)∧(∀u ∈ (q4 z).2.1,0≤u∧u≤255)∧(∀u ∈ (q5 z).2.1,0≤u∧u≤255)∧(∀u ∈ (q6 z).2.1,0≤u∧u≤255)∧(∀u ∈ (q7 z).2.1,0≤u∧u≤255)∧(∀u ∈ (q8 z).1,0≤u∧u≤255):=by
 have h1:∀u ∈ (q1 z).2.1,0≤u∧u≤255:=Jl (nl_bytes h)
 have h2:∀u ∈ (q2 z).2.1,0≤u∧u≤255:=Jl h1
 have h3:∀u ∈ (q3 z).2.1,0≤u∧u≤255:=Jl h2
 have h4:∀u ∈ (q4 z).2.1,0≤u∧u≤255:=Jl h3
 have h5:∀u ∈ (q5 z).2.1,0≤u∧u≤255:=Jl h4
 have h6:∀u ∈ (q6 z).2.1,0≤u∧u≤255:=Jl h5
 have h7:∀u ∈ (q7 z).2.1,0≤u∧u≤255:=Jl h6
 exact⟨h1,h2,h3,h4,h5,h6,h7,qzm h7⟩
theorem q8_nl {z:List Nat} (h:by256 z):(q8 z).1=nl ((q8 z).1.map Int.toNat):=by
 have h8:=(q_bytes h).2.2.2.2.2.2.2
 unfold nl
 rw [List.map_map]
 conv=>lhs;rw [←List.map_id (q8 z).1]
 refine List.map_congr_left fun u hu=>?_
 have:=h8 u hu
 show u=((u.toNat:Nat):Int)
 omega
theorem q8_lt {z:List Nat} (h:by256 z):by256 ((q8 z).1.map Int.toNat):=by
 intro c hc
 obtain⟨u,hu,rfl⟩:=List.mem_map.1 hc
 have:=(q_bytes h).2.2.2.2.2.2.2 u hu
 omega
theorem Uh {k:Nat} {xs:List Int} {e:Int}:(rdN k xs e).2.1.length≤xs.length:=by
 unfold rdN
 repeat' split
 ·exact Mr _
 ·rw [List.length_drop];omega
 ·exact Mr _
theorem rtx_len {xs:List Int} {e:Int}:(rtx xs e).1.length≤xs.length:=by
 unfold rtx
 repeat' split
 ·exact Nat.zero_le _
 ·exact Nat.zero_le _
 ·rw [Mk_,List.length_drop];omega
 ·exact Nat.zero_le _
theorem q8_len (z:List Nat):(q8 z).1.length≤z.length:=by
 have h:(nl z).length=z.length:=by simp [nl]
 rw [←h]
 exact Ml rtx_len (Ml Uh (Ml Uh (Ml Uh (Ml Uh (Ml Uh (Ml Uh Uh))))))
theorem endN_02 (xs:List Int) {e:Int} (h:e=0∨e=1):endN xs e=0∨endN xs e=1∨endN xs e=2:=by
 unfold endN
 repeat' split
 all_goals omega
theorem rdN_01 {k:Nat} {xs:List Int} {e:Int} (h:e=0∨e=1):(rdN k xs e).2.2=0∨(rdN k xs e).2.2=1:=by
 unfold rdN
 repeat' split
 ·exact h
 ·exact .inl rfl
 ·exact .inr rfl
theorem rtx_01 {xs:List Int} {e:Int} (h:e=0∨e=1):(rtx xs e).2.2=0∨(rtx xs e).2.2=1:=by
 unfold rtx
 repeat' split
 ·exact h
 ·exact .inr rfl
 ·exact .inl rfl
 ·exact .inr rfl
theorem q8_01 (z:List Nat):(q8 z).2.2=0∨(q8 z).2.2=1:=rtx_01 (rdN_01 (rdN_01 (rdN_01 (rdN_01 (rdN_01 (rdN_01 (rdN_01 (.inl rfl))))))))
theorem rdI_e (z:List Nat):(rdI z).e=0∨(rdI z).e=1∨(rdI z).e=2:=endN_02 _ (q8_01 z)
theorem iG_ok {ys:List Nat} (h:(iG ys).e=0):(iG ys).right∧ys=closed (ys.take (ys.length-36))∧iG ys=rdI ((ys.take (ys.length-36)).drop 2):=by
 unfold iG at h ⊢
 by_cases h1:ys.length<36
 ·rw [if_pos h1] at h;exact absurd h (by decide)
 rw [if_neg h1] at h ⊢
 by_cases h2:ys≠closed (ys.take (ys.length-36))
 ·rw [if_pos h2] at h;exact absurd h (by decide)
 rw [if_neg h2] at h ⊢
 by_cases h3:(ys.take (ys.length-36)).take 2≠[76,73]
 ·rw [if_pos h3] at h;exact absurd h (by decide)
 rw [if_neg h3] at h ⊢
 by_cases h4:(rdI ((ys.take (ys.length-36)).drop 2)).e≠0
 ·rw [if_pos h4] at h;exact absurd h h4
 rw [if_neg h4] at h ⊢
 by_cases h5:(rdI ((ys.take (ys.length-36)).drop 2)).right
 ·rw [if_pos h5] at h ⊢
  exact⟨h5,Mc_ fun e=>h2 e,rfl⟩
 ·rw [if_neg h5] at h;exact absurd h (by decide)
end ImgT
namespace StoV
open DskE RecM StgM CmtM StoM ImgT
structure Dc where
 O:Nat→Ow
 I:Nat→Nat→Ig
structure Da where
 k:Nat
 (p n z no:Int)
 d:List Nat
def sl (i:Int):Nat:=i.toNat
section
variable (n:Nat) (T:Int) (chk:Nat→Ig→Int→Int)
def dfr (D:Dc) (p:Int):Int:=if p<0∨(n:Int)≤p then 3 else if (D.O p.toNat).r.a≠(D.O p.toNat).r.c then 18 else 0
def dslot (D:Dc) (p:Nat) (c:Sa):Dc×Int:=
 ({ D with O:=upd D.O p { D.O p with x:=upd (D.O p).x (spr (D.O p)) (dA ((D.O p).x (spr (D.O p))) c).1 } },(dA ((D.O p).x (spr (D.O p))) c).2)
def dbg (D:Dc) (p ses:Int):Int:=if dfr n D p≠0 then dfr n D p else if ((D.O p.toNat).x (spr (D.O p.toNat))).has=false then 16 else if ((D.O p.toNat).x (spr (D.O p.toNat))).g.s≠ses then 17 else 0
def dsave (D:Dc) (p:Nat) (r:Rc):Dc×Int:=({ D with O:=upd D.O p { D.O p with r:=(nx (D.O p).r r).1 } },(nx (D.O p).r r).2)
def sealR (D:Dc) (p:Nat):Rc:={ (D.O p).r with a:=(spr (D.O p):Nat),l:=T,b:=0 }
def bootR (r:Rc):Rc:=if r.l=0 then { r with b:=1+r.a,a:=r.c } else { r with l:=r.l-1 }
def confR (r:Rc):Rc:={ r with c:=r.a,l:=0,b:=0 }
def got (D:Dc) (p:Nat):List Nat×Int:=rY ((D.O p).x (spr (D.O p)))
def sealD (D:Dc) (p:Nat):Dc:=⟨upd D.O p { D.O p with r:=(nx (D.O p).r (sealR T D p)).1 },upd D.I p (upd (D.I p) (spr (D.O p)) (iG (got D p).1))⟩
def dseal (D:Dc) (p:Int) (ses:Int):Dc×Int:=
 if dbg n D p ses≠0 then (D,dbg n D p ses)
 else if (got D p.toNat).2≠0 then (D,(got D p.toNat).2)
 else if (iG (got D p.toNat).1).e≠0 then (D,(iG (got D p.toNat).1).e)
 else if chk p.toNat (iG (got D p.toNat).1) (D.I p.toNat (sl (D.O p.toNat).r.a)).v≠0 then (D,chk p.toNat (iG (got D p.toNat).1) (D.I p.toNat (sl (D.O p.toNat).r.a)).v)
 else if (nx (D.O p.toNat).r (sealR T D p.toNat)).2=0 then (sealD T D p.toNat,0)
 else (D,(nx (D.O p.toNat).r (sealR T D p.toNat)).2)
def dDo (D:Dc) (a:Da):Dc×Int:=
 if a.k=0 then (if dfr n D a.p≠0 then (D,dfr n D a.p) else dslot D a.p.toNat ⟨0,a.n,a.z,0,[]⟩)
 else if a.k=1 then (if dfr n D a.p≠0 then (D,dfr n D a.p) else dslot D a.p.toNat ⟨1,a.n,0,a.no,a.d⟩)
 else if a.k=2 then dseal n T chk D a.p a.n
 else if a.k=3 then (if dbg n D a.p a.n≠0 then (D,dbg n D a.p a.n) else dslot D a.p.toNat ⟨2,0,0,0,[]⟩)
 else if a.k=4 then (if a.p<0∨(n:Int)≤a.p then (D,3) else if (D.O a.p.toNat).r.a=(D.O a.p.toNat).r.c then (D,0) else dsave D a.p.toNat (bootR (D.O a.p.toNat).r))
 else (if a.p<0∨(n:Int)≤a.p then (D,3) else if (D.O a.p.toNat).r.a=(D.O a.p.toNat).r.c then (D,16) else dsave D a.p.toNat (confR (D.O a.p.toNat).r))
structure Hold (D:Dc) (p k:Nat):Prop where
 got:(rY ((D.O p).x k)).2=0
 is:iG (rY ((D.O p).x k)).1=D.I p k
 ok:(D.I p k).e=0
 fit:chk p (D.I p k) 0=0
def DI (D:Dc):Prop:=∀p,p<n→Hold chk D p (sl (D.O p).r.a)∧Hold chk D p (sl (D.O p).r.c)
end
section
variable {n:Nat} {T:Int} {chk:Nat→Ig→Int→Int} {D:Dc} {p k:Nat}
theorem dfr_0 {q:Int} (h:dfr n D q=0):∃p:Nat,q=p∧p<n∧(D.O p).r.a=(D.O p).r.c:=by
 unfold dfr at h
 by_cases h1:q<0∨(n:Int)≤q
 ·rw [if_pos h1] at h;exact absurd h (by decide)
 rw [if_neg h1] at h
 by_cases h2:(D.O q.toNat).r.a≠(D.O q.toNat).r.c
 ·rw [if_pos h2] at h;exact absurd h (by decide)
 exact⟨q.toNat,by omega,by omega,Mc_ h2⟩
theorem spr_ne {o:Ow} (hc:0≤o.r.c∧o.r.c≤1):sl o.r.c≠spr o:=by
 unfold sl spr
 split <;> omega
theorem Hold.far {D':Dc} (h:Hold chk D p k) (hx:(D'.O p).x k=(D.O p).x k) (hi:D'.I p k=D.I p k):Hold chk D' p k:=
 ⟨by rw [hx];exact h.got,by rw [hx,hi];exact h.is,by rw [hi];exact h.ok,by rw [hi];exact h.fit⟩
theorem di_slot (h:DI n chk D) (hw:∀p,p<n→Okw p (D.O p)) (hp:p<n) (ha:(D.O p).r.a=(D.O p).r.c) (c:Sa):DI n chk (dslot D p c).1:=by
 intro q hq
 have hc:=(hw p hp).right.1.2.2.2
 have h1:=h q hq
 by_cases e:q=p
 ·subst e
  have hO:(dslot D q c).1.O q = { D.O q with x:=upd (D.O q).x (spr (D.O q)) (dA ((D.O q).x (spr (D.O q))) c).1 }:=Qw _ _ _
  have hn:=spr_ne hc
  have hx:∀k,k≠spr (D.O q)→((dslot D q c).1.O q).x k=(D.O q).x k:=fun k hk=>by rw [hO];exact upd_ne _ _ hk
  have hr:((dslot D q c).1.O q).r=(D.O q).r:=by rw [hO]
  rw [hr]
  exact⟨h1.1.far (hx _ (by rw [ha];exact hn)) rfl,h1.2.far (hx _ hn) rfl⟩
 ·have hO:(dslot D p c).1.O q=D.O q:=upd_ne _ _ e
  rw [hO]
  exact⟨h1.1.far (by rw [hO]) rfl,h1.2.far (by rw [hO]) rfl⟩
theorem qzn (h:DI n chk D) (hp:p<n) (r:Rc) (ha:(nx (D.O p).r r).2=0→Hold chk D p (sl r.a)) (hc:(nx (D.O p).r r).2=0→Hold chk D p (sl r.c)):DI n chk (dsave D p r).1:=by
 intro q hq
 have h1:=h q hq
 by_cases e:q=p
 ·subst e
  have hO:(dsave D q r).1.O q = { D.O q with r:=(nx (D.O q).r r).1 }:=Qw _ _ _
  have hx:∀k,((dsave D q r).1.O q).x k=(D.O q).x k:=fun k=>by rw [hO]
  have hr:((dsave D q r).1.O q).r=(nx (D.O q).r r).1:=by rw [hO]
  rw [hr]
  rcases Uq (D.O q).r r with⟨e0,e1,_⟩|⟨_,e1⟩
  ·rw [e1]
   exact⟨(ha e0).far (hx _) rfl,(hc e0).far (hx _) rfl⟩
  ·rw [e1]
   exact⟨h1.1.far (hx _) rfl,h1.2.far (hx _) rfl⟩
 ·have hO:(dsave D p r).1.O q=D.O q:=upd_ne _ _ e
  rw [hO]
  exact⟨h1.1.far (by rw [hO]) rfl,h1.2.far (by rw [hO]) rfl⟩
theorem di_boot (h:DI n chk D) (hp:p<n):DI n chk (dsave D p (bootR (D.O p).r)).1:=by
 have h1:=h p hp
 refine qzn h hp _ (fun _=>?_) (fun _=>?_)
 ·unfold bootR
  split
  ·exact h1.2
  ·exact h1.1
 ·unfold bootR
  split
  ·exact h1.2
  ·exact h1.2
theorem di_conf (h:DI n chk D) (hp:p<n):DI n chk (dsave D p (confR (D.O p).r)).1:=
 qzn h hp _ (fun _=>(h p hp).1) (fun _=>(h p hp).1)
theorem dbg_0 {q ses:Int} (h:dbg n D q ses=0):dfr n D q=0:=by
 unfold dbg at h
 by_cases h1:dfr n D q≠0
 ·rw [if_pos h1] at h;exact h
 ·exact Mc_ h1
theorem di_seal (hchk:∀p i v,0≤v→chk p i v=0→chk p i 0=0) (h:DI n chk D) (hw:∀p,p<n→Okw p (D.O p)) (q ses:Int):DI n chk (dseal n T chk D q ses).1:=by
 unfold dseal
 by_cases h1:dbg n D q ses≠0
 ·rw [if_pos h1];exact h
 rw [if_neg h1]
 by_cases h2:(got D q.toNat).2≠0
 ·rw [if_pos h2];exact h
 rw [if_neg h2]
 by_cases h3:(iG (got D q.toNat).1).e≠0
 ·rw [if_pos h3];exact h
 rw [if_neg h3]
 by_cases h4:chk q.toNat (iG (got D q.toNat).1) (D.I q.toNat (sl (D.O q.toNat).r.a)).v≠0
 ·rw [if_pos h4];exact h
 rw [if_neg h4]
 by_cases h5:(nx (D.O q.toNat).r (sealR T D q.toNat)).2=0
 ·rw [if_pos h5]
  obtain⟨p,rfl,hp,ha⟩:=dfr_0 (dbg_0 (Mc_ h1))
  rw [show ((p:Int)).toNat=p from by omega] at h2 h3 h4 h5 ⊢
  have hc:=(hw p hp).right.1.2.2.2
  have hn:=spr_ne hc
  have hv:0≤(D.I p (sl (D.O p).r.a)).v:=by
   have h6:=(h p hp).1
   have h7:=iG_ok (ys:=(rY ((D.O p).x (sl (D.O p).r.a))).1) (by rw [h6.is];exact h6.ok)
   rw [h6.is] at h7
   have:=h7.1.2.1.1
   omega
  intro r hr
  show Hold chk (sealD T D p) r (sl ((sealD T D p).O r).r.a)∧Hold chk (sealD T D p) r (sl ((sealD T D p).O r).r.c)
  by_cases e:r=p
  ·subst e
   have e1:(nx (D.O r).r (sealR T D r)).1=nextR (D.O r).r (sealR T D r):=by
    rcases Uq (D.O r).r (sealR T D r) with⟨_,e1,_⟩|⟨e34,_⟩
    ·exact e1
    ·omega
   have hO:(sealD T D r).O r = { D.O r with r:=(nx (D.O r).r (sealR T D r)).1 }:=Qw _ _ _
   have hx:∀k,((sealD T D r).O r).x k=(D.O r).x k:=fun k=>by rw [hO]
   have hI:(sealD T D r).I r=upd (D.I r) (spr (D.O r)) (iG (got D r).1):=Qw _ _ _
   have hr2:((sealD T D r).O r).r=nextR (D.O r).r (sealR T D r):=by rw [hO];exact e1
   rw [hr2]
   have ea:sl (nextR (D.O r).r (sealR T D r)).a=spr (D.O r):=by show ((spr (D.O r):Nat):Int).toNat=_;omega
   rw [ea]
   refine⟨⟨?_,?_,?_,?_⟩,?_⟩
   ·rw [hx];exact Mc_ h2
   ·rw [hx,hI,Qw];rfl
   ·rw [hI,Qw];exact Mc_ h3
   ·rw [hI,Qw];exact hchk _ _ _ hv (Mc_ h4)
   ·exact (h r hr).2.far (hx _) (by rw [hI];exact upd_ne _ _ hn)
  ·have hO:(sealD T D p).O r=D.O r:=upd_ne _ _ e
   have hI:(sealD T D p).I r=D.I r:=upd_ne _ _ e
   rw [hO]
   have h6:=h r hr
   exact⟨h6.1.far (by rw [hO]) (by rw [hI]),h6.2.far (by rw [hO]) (by rw [hI])⟩
 ·rw [if_neg h5];exact h
theorem di_do (hchk:∀p i v,0≤v→chk p i v=0→chk p i 0=0) (h:DI n chk D) (hw:∀p,p<n→Okw p (D.O p)) (a:Da):DI n chk (dDo n T chk D a).1:=by
 have hs:∀c:Sa,dfr n D a.p=0→DI n chk (dslot D a.p.toNat c).1:=fun c h0=>by
  obtain⟨p,e,hp,ha⟩:=dfr_0 h0
  rw [e,show ((p:Int)).toNat=p from by omega]
  exact di_slot h hw hp ha c
 unfold dDo
 by_cases k0:a.k=0
 ·rw [if_pos k0]
  by_cases h0:dfr n D a.p≠0
  ·rw [if_pos h0];exact h
  ·rw [if_neg h0];exact hs _ (Mc_ h0)
 rw [if_neg k0]
 by_cases k1:a.k=1
 ·rw [if_pos k1]
  by_cases h0:dfr n D a.p≠0
  ·rw [if_pos h0];exact h
  ·rw [if_neg h0];exact hs _ (Mc_ h0)
 rw [if_neg k1]
 by_cases k2:a.k=2
 ·rw [if_pos k2];exact di_seal hchk h hw _ _
 rw [if_neg k2]
 by_cases k3:a.k=3
 ·rw [if_pos k3]
  by_cases h0:dbg n D a.p a.n≠0
  ·rw [if_pos h0];exact h
  ·rw [if_neg h0];exact hs _ (dbg_0 (Mc_ h0))
 rw [if_neg k3]
 by_cases k4:a.k=4
 ·rw [if_pos k4]
  by_cases h0:a.p<0∨(n:Int)≤a.p
  ·rw [if_pos h0];exact h
  rw [if_neg h0]
  split
  ·exact h
  ·exact di_boot h (by omega)
 ·rw [if_neg k4]
  by_cases h0:a.p<0∨(n:Int)≤a.p
  ·rw [if_pos h0];exact h
  rw [if_neg h0]
  split
  ·exact h
  ·exact di_conf h (by omega)
end
end StoV
namespace StoE
open Kit Byt Mem RecM ImgT StoV StoA
open RecA (rval rcells rok n64 sok)
open StgA (hd)
inductive Rl
 | out
 | data
 | head
 | list
 | slots (p:Nat)
 | imgs (p:Nat)
 | row (p k:Nat)
structure Mm where
 lb:Nat
 lc:Nat
 LC:List Value
 sb:Nat→Nat
 sc:Nat→Nat
 SC:Nat→List Value
 ib:Nat→Nat
 ic:Nat→Nat
 IC:Nat→List Value
def ocs (r:Rc) (sb sc ib ic:Nat):List Value:=[.int .i64 r.p,.int .i64 r.q,.int .i64 r.a,.int .i64 r.c,.int .i64 r.l,.int .i64 r.b,.slice (some ⟨sb,0,none⟩) 2 sc,.slice (some ⟨ib,0,none⟩) 2 ic]
def igc (i:Ig) (A:Option Addr) (n c:Nat):List Value:=[.int .i64 i.p,.int .i64 i.v,.int .i64 i.h,.int .i64 i.m,.int .i64 i.f,.int .i64 i.s,.int .i64 i.r,.slice A n c]
def sH (ρ:Nat→Rl) (p k:Nat) (i:Nat):Prop:=ρ i=.slots p∨ρ i=.row p k
def isD (ρ:Nat→Rl) (i:Nat):Prop:=ρ i=.data
def isO (ρ:Nat→Rl) (i:Nat):Prop:=ρ i≠.out
structure RSt (w:World) (ρ:Nat→Rl) (b:Nat) (tb:List Value) (n:Nat) (D:Dc) (M:Mm):Prop where
 head:Blk w b 121 (tb++[.slice (some ⟨M.lb,0,none⟩) n M.lc])
 tb5:tb.length=5
 list:Blk w M.lb 128 M.LC
 n4:n≤4∧n≤M.lc∧M.lc≤9223372036854775807
 own:∀p,p<n→p*8+8≤M.LC.length∧∀i v,(ocs (D.O p).r (M.sb p) (M.sc p) (M.ib p) (M.ic p))[i]?=some v→M.LC[p*8+i]?=some v
 caps:∀p,p<n→2≤M.sc p∧M.sc p≤9223372036854775807∧2≤M.ic p∧M.ic p≤9223372036854775807
 slot:∀p,p<n→∀k,k≤1→ROl w (sH ρ p k) (isD ρ) (M.sb p) (k*5) (M.SC p) ((D.O p).x k)
 imgs:∀p,p<n→Blk w (M.ib p) 40 (M.IC p)∧16≤(M.IC p).length
 img:∀p,p<n→∀k,k≤1→∃A m c,(∀i v,(igc (D.I p k) A m c)[i]?=some v→(M.IC p)[k*8+i]?=some v)∧Rd w A m c (u8n (D.I p k).xs)∧(0<m→∀q o,A=some ⟨q,o,none⟩→ρ q=.data)
 rb:ρ b=.head
 rl:ρ M.lb=.list
 rs:∀p,p<n→ρ (M.sb p)=.slots p
 ri:∀p,p<n→ρ (M.ib p)=.imgs p
 us:∀i p,ρ i=.slots p→i=M.sb p
 lt:∀i,isO ρ i→i<w.heap.size
end StoE
namespace StoF
open Byt StgM StoV StoA StoE
open StgA (hd)
theorem Tg (x:Rf) (A:Option Addr) (n c:Nat):(hd x A n c).length=5:=rfl
theorem spl_out {α:Type} {C h:List α} {o j:Nat} (hf:o+h.length≤C.length) (hj:j<o∨o+h.length≤j):(splice C o h)[j]?=C[j]?:=by
 unfold splice
 rcases hj with hj|hj
 ·rw [List.getElem?_append_left (by rw [Mk_];omega),List.getElem?_take,if_pos hj]
 ·rw [List.getElem?_append_right (by rw [Mk_];omega),Mk_,List.getElem?_append_right (by omega),List.getElem?_drop]
  congr 1
  omega
theorem qxv {α:Type} {C h:List α} {o:Nat} (hf:o+h.length≤C.length) (hs:∀i v,h[i]?=some v→C[o+i]?=some v):splice C o h=C:=by
 apply List.ext_getElem?
 intro j
 by_cases hj:j<o∨o+h.length≤j
 ·exact spl_out hf hj
 ·have hi:j-o<h.length:=by omega
  have h1:=spl_get (i:=j-o) hf (Mq hi)
  have h2:=hs (j-o) _ (Mq hi)
  rw [show o+(j-o)=j from by omega] at h1 h2
  rw [h1,h2]
section
variable {w w':World} {H N H2 N2 G:Nat→Prop} {b o n c:Nat} {C:List Value} {x:Rf} {E:List Sl} {A:Option Addr}
theorem RO.mono (h:RO w H N b o C x E A n c) (hH:∀i,H i→H2 i) (hN:∀i,N i→N2 i) (l1:∀i,H2 i→i<w.heap.size) (l2:∀i,N2 i→i<w.heap.size) (d:∀i,H2 i→¬N2 i):RO w H2 N2 b o C x E A n c:=
 ⟨h.head,h.fit,h.own,h.bl,fun e he=>⟨(h.ent e he).1,fun q o hA=>hN q ((h.ent e he).2 q o hA)⟩,hH _ h.ha,fun k hk=>⟨hH k (h.ho k hk).1,(h.ho k hk).2⟩,l1,l2,d⟩
theorem ROl.mono (h:ROl w H N b o C x) (hH:∀i,H i→H2 i) (hN:∀i,N i→N2 i) (l1:∀i,H2 i→i<w.heap.size) (l2:∀i,N2 i→i<w.heap.size) (d:∀i,H2 i→¬N2 i):ROl w H2 N2 b o C x:=by
 obtain⟨E,A,n,c,h⟩:=h
 exact⟨E,A,n,c,RO.mono h hH hN l1 l2 d⟩
end
end StoF
namespace RecC
open Byt
def Gives (w:World) (xs:List Nat) (e:Ending) (w':World):Prop:=∃B m d,e=.returned (.slice B m d)∧w'.ownsRow w.heap.size 5 1 (.slice B m d) m (u8n xs)∧Bw w w'
theorem own_mono {w:World} {b b':Nat} {e:TypeId} {v:Value} {n:Nat} {xs:List Value} (h:w.ownsRow b' e 1 v n xs) (hb:b≤b'):w.ownsRow b e 1 v n xs:=by
 refine⟨h.1,?_⟩
 rcases h.2 with h1|⟨g,cap,cur,hv,hg,hrest⟩
 ·exact .inl h1
 ·exact .inr ⟨g,cap,cur,hv,by omega,hrest⟩
end RecC
namespace QTail
section
variable {P:Program} {ops:Array Oper} {md:Region.Mode} {C:World→Prop}
def sinks (md:Region.Mode) (ops:Array Oper) (n:Nat) (l0:Array Bool):Bool:=
 (List.range n).all fun i=>l0.getD i true || (List.range (n+1)).any fun j=>decide (i<j)&&Region.waitsFor md ops j i
theorem waits {n:Nat} {l0 listed:Array Bool} (hs:sinks md ops n l0=true) (hc:Region.chainB md ops n=true) (h0:∀i,l0.getD i true=true→listed.getD i true=true) (inv:HeadInv md ops n listed) :
 ∀d i:Nat,n-i≤d→i<n→listed.getD i true=false→∀t,n≤t→t ∉ Region.ready md ops listed:=by
 intro d
 induction d with
 | zero=>intro i hd hi;omega
 | succ d ih=>
   intro i hd hi hun t ht hr
   obtain⟨_,ot,hot,hall⟩:=mem_ready.1 hr
   have hno:∀k,Region.waitsFor md ops t k=true→listed.getD k true=false→False:=fun k hk hu=>by
    obtain⟨o',ho',e,he,hb,hon⟩:=Region.waitsFor_spec hk
    obtain rfl:o'=ot:=Option.some.inj (ho'.symm.trans hot)
    have h2:=hall e he hb
    rw [hon,getD_both hu] at h2
    cases h2
   rcases Nat.lt_or_ge n t with htn|htn
   ·have htl:t<ops.size:=(Array.getElem?_eq_some_iff.1 hot).1
    have h1:=List.all_eq_true.1 hc t (List.mem_range.2 htl)
    simp only [Bool.or_eq_true,decide_eq_true_eq] at h1
    rcases h1 with h1|h1
    ·omega
    ·exact hno _ h1 (inv.tail (t-1) (by omega) (by omega))
   ·obtain rfl:t=n:=by omega
    have h1:=List.all_eq_true.1 hs i (List.mem_range.2 hi)
    have hi0:l0.getD i true=false:=by
     cases h:l0.getD i true with
     | false=>rfl
     | true=>rw [h0 i h] at hun;cases hun
    rw [hi0,Bool.false_or] at h1
    obtain⟨j,hj,hj2⟩:=List.any_eq_true.1 h1
    simp only [Bool.and_eq_true,decide_eq_true_eq] at hj2
    have hjn:j≤t:=by have:=List.mem_range.1 hj;omega
    by_cases hjt:j=t
    ·subst hjt;exact hno _ hj2.2 hun
    ·cases hl:listed.getD j true with
     | false=>exact ih j (by omega) (by omega) hl t (Mr _) hr
     | true=>
       obtain⟨oj,hoj,e,he,hb,hon⟩:=Region.waitsFor_spec hj2.2
       have hjs:j<listed.size:=by rw [inv.size];exact (Array.getElem?_eq_some_iff.1 hoj).1
       have hl':listed.getD j false=true:=by simpa [hjs] using hl
       have h2:=inv.closed j oj hoj hl' e he hb
       rw [hon,getD_both hun] at h2
       cases h2
def anyQ (P:Program) (md:Region.Mode) (ops:Array Oper) (C:World→Prop) (n:Nat) (L:Array Bool→Act→Prop):Nat→Array Bool→Act→Prop
 | 0,listed,a=>L listed a
 | f+1,listed,a=>Region.ready md ops listed≠[]∧∀i ∈ Region.ready md ops listed,i<n∧qOp P ops C i (anyQ P md ops C n L f (listed.setIfInBounds i true)) a
theorem any_of {n g:Nat} {L:Array Bool→Act→Prop} {Q':Exit→Act→World→Prop} (hL:∀listed a w,C w→L listed a→wpAny P md ops Q' g listed a w) :
 ∀(f:Nat) (listed:Array Bool) (a:Act) (w:World),C w→anyQ P md ops C n L f listed a→wpAny P md ops Q' (f+g) listed a w
 | 0,listed,a,w,hC,h=>by rw [Nat.zero_add];exact hL _ _ _ hC h
 | f+1,listed,a,w,hC,h=>by
   rw [show f+1+g=(f+g)+1 by omega]
   exact⟨fun h0=>absurd h0 h.1,fun i hi=>wpOp_of_qOp hC (fun a' w' hC' h'=>any_of hL f _ a' w' hC' h') (h.2 i hi).2⟩
theorem qq5 {n i:Nat} {oi:Oper} {v:Value} {L:Array Bool→Act→Prop} {l0:Array Bool} (hi:ops[i]?=some oi) (hsel:∀(j:Nat) (o:Oper) cs b,ops[j]?=some o→o.op≠.select cs b)
 (hs:sinks md ops n l0=true) (hc:Region.chainB md ops n=true) (hin:i<n) (hdone:∀listed a,L listed a→∀j ∈ Region.ready md ops listed,n≤j) :
 ∀(f:Nat) (listed:Array Bool) (a:Act),HeadInv md ops n listed→(∀i,l0.getD i true=true→listed.getD i true=true)→
  (∀j oj,ops[j]?=some oj→j≠i→listed.getD j true=false→(∀e ∈ oj.after,Region.binds md e=true→e.on≠i)→oi.apart ops oj=true)→
  i ∈ Region.ready md ops listed→YieldsIn P ops C oi v a→
  anyQ P md ops C n L f (listed.setIfInBounds i true) (a.put oi.dst v)→anyQ P md ops C n L (f+1) listed a:=by
 intro f
 induction f with
 | zero=>
   intro listed a inv h0 _ hr hy H
   refine⟨fun h=>(by rw [h] at hr;cases hr),fun j hj=>?_⟩
   have hjn:j<n:=Nat.lt_of_not_ge fun h=>waits hs hc h0 inv _ i (Mr _) hin (mem_ready.1 hr).1 j h hj
   refine⟨hjn,?_⟩
   by_cases hji:j=i
   ·subst hji;exact hy.qOp hi H
   ·have:=hdone _ _ H j (ready_mono hj hji)
    omega
 | succ f ih=>
   intro listed a inv h0 hfree hr hy H
   refine⟨fun h=>(by rw [h] at hr;cases hr),fun j hj=>?_⟩
   have hjn:j<n:=Nat.lt_of_not_ge fun h=>waits hs hc h0 inv _ i (Mr _) hin (mem_ready.1 hr).1 j h hj
   refine⟨hjn,?_⟩
   by_cases hji:j=i
   ·subst hji;exact hy.qOp hi H
   ·obtain⟨hjun,oj,hoj,hall⟩:=mem_ready.1 hj
    have hnot:∀e ∈ oj.after,Region.binds md e=true→e.on≠i:=fun e he hb heq=>by
     have h1:=hall e he hb
     rw [heq,getD_both (mem_ready.1 hr).1] at h1
     cases h1
    have hgo:=qOp_put hoj (hfree j oj hoj hji hjun hnot) (fun cs b=>hsel i oi cs b hi) (fun cs b=>hsel j oj cs b hoj) hy (H.2 j (ready_mono hj hji)).2
    refine qOp_mono (fun a' h3=>ih (listed.setIfInBounds j true) a' (inv.set hj hjn) (fun k hk=>?_) (fun k ok hk hki hun hno=>hfree k ok hk hki ?_ hno) (ready_mono hr (Ne.symm hji)) h3.1 ?_) hgo
    ·by_cases hjk:j=k
     ·subst hjk
      by_cases hb:j<listed.size
      ·simp [hb]
      ·simp [hb]
     ·rw [getD_set_ne true hjk];exact h0 k hk
    ·by_cases hjk:j=k
     ·subst hjk;exact hjun
     ·rw [getD_set_ne true hjk] at hun;exact hun
    ·rw [Array.setIfInBounds_comm _ _ hji]
     exact h3.2
def lexI (md:Region.Mode) (ops:Array Oper) (n g:Nat):List Nat→Array Bool→Bool
 | [],listed=>Region.seqB md ops g n listed
 | i :: is,listed=>decide (i<n)&&(Region.ready md ops listed).contains i&&Region.free md ops listed i&&lexI md ops n g is (listed.setIfInBounds i true)
def wpQI (P:Program) (ops:Array Oper) (C:World→Prop) (L:Act→Prop):List Nat→Act→Prop
 | [],a=>L a
 | i :: is,a=>qOp P ops C i (wpQI P ops C L is) a
theorem U9 {L:Act→Prop} {a:Act} (h:L a):wpQI P ops C L [] a:=h
theorem Qn {L:Act→Prop} {a:Act} {i:Nat} {is:List Nat} {o:Oper} (hi:ops[i]?=some o)
 (h:∀K:Act→Prop,(∀a,wpQI P ops C L is a→K a)→if Region.wanted o (yielded ops a.tmps) then o.quiet P a C K else K (a.put o.dst undef)):wpQI P ops C L (i :: is) a:=by
 show qOp P ops C i _ a
 unfold qOp
 simp only [hi]
 exact h _ fun _ h=>h
theorem anyQ_lex {n g:Nat} {Lq:Act→Prop} {l0:Array Bool} (hsel:Region.noSelect ops=true) (hs:sinks md ops n l0=true) (hc:Region.chainB md ops n=true) :
 ∀(is:List Nat) (listed:Array Bool) (a:Act),HeadInv md ops n listed→(∀i,l0.getD i true=true→listed.getD i true=true)→
 lexI md ops n g is listed=true→wpQI P ops C Lq is a→anyQ P md ops C n (fun listed' a'=>Region.seqB md ops g n listed'=true∧Lq a') is.length listed a
 | [],_,_,_,_,hB,h=>⟨hB,h⟩
 | i :: is,listed,a,inv,h0,hB,h=>by
   simp only [lexI,Bool.and_eq_true,decide_eq_true_eq] at hB
   obtain⟨⟨⟨hin,hr⟩,hf⟩,hB'⟩:=hB
   have hr':i ∈ Region.ready md ops listed:=by simpa using hr
   obtain⟨_,o,ho,_⟩:=mem_ready.1 hr'
   obtain⟨v,hy,hK⟩:=yieldsIn_of_qOp ho (show qOp P ops C i (wpQI P ops C Lq is) a from h)
   refine qq5 ho (Region.noSelect_spec hsel) hs hc hin (fun listed' a' hL=>seqB_ready hL.1) is.length listed a inv h0 (Region.free_spec ho hf) hr' hy
    (anyQ_lex hsel hs hc is _ _ (inv.set hr' hin) (fun k hk=>?_) hB' hK)
   by_cases hik:i=k
   ·subst hik
    by_cases hb:i<listed.size
    ·simp [hb]
    ·simp [hb]
   ·rw [getD_set_ne true hik];exact h0 k hk
def shapeB (md:Region.Mode) (ops:Array Oper) (n:Nat) (is:List Nat) (l0:Array Bool):Bool:=
 Region.noSelect ops&&decide (n<ops.size)&&sinks md ops n l0&&Region.chainB md ops n&&decide (l0.size=ops.size) &&
 ((List.range ops.size).all fun j=>!l0.getD j false || match ops[j]? with|some oj=>oj.after.all fun e=>!Region.binds md e || l0.getD e.on false|none=>true) &&
 ((List.range ops.size).all fun t=>decide (t<n) || !l0.getD t true)&&lexI md ops n (ops.size-n) is l0
theorem Z9 {Q:Exit→Act→World→Prop} {fuel:Nat} {l0:Array Bool} {a:Act} {w:World} (n:Nat) (is:List Nat) (hB:shapeB md ops n is l0=true) (hf:fuel=is.length+(ops.size-n)) (hC:C w)
 (h:wpQI P ops C (fun a'=>∀w',C w'→wpList P ops Q (ops.toList.drop n) a' w') is a):wpAny P md ops Q fuel l0 a w:=by
 simp only [shapeB,Bool.and_eq_true,decide_eq_true_eq] at hB
 obtain⟨⟨⟨⟨⟨⟨⟨hsel,hn⟩,hs⟩,hc⟩,hz⟩,hcl⟩,htl⟩,hlex⟩:=hB
 have inv:HeadInv md ops n l0:=by
  refine⟨hz,fun j oj hoj hl e he hb=>?_,fun t ht ht'=>?_⟩
  ·have h1:=List.all_eq_true.1 hcl j (List.mem_range.2 (Array.getElem?_eq_some_iff.1 hoj).1)
   rw [hl,hoj] at h1
   simp only [Bool.not_true,Bool.false_or] at h1
   have h2:=Array.all_eq_true'.1 h1 e he
   rw [hb] at h2
   simpa using h2
  ·have h1:=List.all_eq_true.1 htl t (List.mem_range.2 ht')
   have h2 : ¬t<n:=by omega
   simpa [h2] using h1
 subst hf
 have hg:(ops.toList.drop n).length=ops.size-n:=by simp
 refine any_of (g:=ops.size-n) (fun listed' a' w' hC' hL=>?_) _ _ _ _ hC (anyQ_lex (g:=ops.size-n) hsel hs hc is l0 a inv (fun _ h=>h) hlex h)
 have:=wpAny_of_seq (md:=md) (Q':=Q) (ops.toList.drop n) n listed' a' w' (fun j=>by simp [List.getElem?_drop]) (by rw [hg];exact hL.1) (hL.2 w' hC')
 rwa [hg] at this
end
end QTail
namespace RecF
open RecM RecA
open TabR (rdN num)
theorem nm_bd {xs:List Nat} (hb:byt xs) (i k:Nat):0≤nm xs i k∧nm xs i k<256 ^ k:=by
 have key:∀(l:List Nat) (a:Int) (m:Nat),(∀c ∈ l,c<256)→0≤a→a<256 ^ m→0≤(nl l).foldl (fun a b=>256*a+b) a∧(nl l).foldl (fun a b=>256*a+b) a<256 ^ (m+l.length):=by
  intro l
  induction l with
  | nil=>intro a m _ h0 h1;exact⟨h0,h1⟩
  | cons x l ih=>
    intro a m hl h0 h1
    have hx:=hl x (by simp)
    have h2:256*a+(x:Int)<256 ^ (m+1):=by rw [Int.pow_succ];omega
    have h3:=ih (256*a+x) (m+1) (fun c hc=>hl c (by simp [hc])) (by omega) h2
    have e:m+(x :: l).length=m+1+l.length:=by simp;omega
    rw [e]
    exact h3
 have h1:=key ((xs.drop i).take k) 0 0 (byt_take (byt_drop hb i) k) (by omega) (by simp)
 refine⟨h1.1,Int.lt_of_lt_of_le h1.2 ?_⟩
 have h2:(256:Nat) ^ (0+((xs.drop i).take k).length)≤256 ^ k:=Nat.pow_le_pow_right (by omega) (by simp;omega)
 have h3:((256 ^ k:Nat):Int)=(256:Int) ^ k:=by simp
 have h4:((256 ^ (0+((xs.drop i).take k).length):Nat):Int)=(256:Int) ^ (0+((xs.drop i).take k).length):=by simp
 omega
theorem qzo {xs:List Nat} (hb:byt xs) (i k:Nat) (hk:k≤4):n64 (nm xs i k):=by
 have h:=nm_bd hb i k
 have h2:(256:Nat) ^ k≤256 ^ 4:=Nat.pow_le_pow_right (by omega) hk
 have h3:((256 ^ k:Nat):Int)=(256:Int) ^ k:=by simp
 unfold n64
 omega
end RecF
namespace StoU
open Kit Byt Mem StoV StoA StoE StoF
open StgA (hd)
open RecA (rval rcells)
section
variable {D:Dc} {M:Mm} {k p:Nat}
def lst (D:Dc) (M:Mm):Nat→List Value
 | 0=>[]
 | k+1=>lst D M k++ocs (D.O k).r (M.sb k) (M.sc k) (M.ib k) (M.ic k)
theorem K9 (D:Dc) (M:Mm) (k:Nat):(lst D M k).length=k*8:=by
 induction k with
 | zero=>rfl
 | succ k ih=>show (lst D M k++_).length=_;rw [Ma,ih];show k*8+8=_;omega
theorem lst_get (hp:p<k) {i:Nat} {v:Value} (hi:(ocs (D.O p).r (M.sb p) (M.sc p) (M.ib p) (M.ic p))[i]?=some v):(lst D M k)[p*8+i]?=some v:=by
 have hi8:i<8:=(List.getElem?_eq_some_iff.1 hi).1
 induction k with
 | zero=>omega
 | succ k ih=>
   show (lst D M k++_)[p*8+i]?=some v
   by_cases e:p=k
   ·subst e
    rw [List.getElem?_append_right (by rw [K9];omega),K9,show p*8+i-p*8=i from by omega]
    exact hi
   ·rw [List.getElem?_append_left (by rw [K9];omega)]
    exact ih (by omega)
theorem qxw {D':Dc} {M':Mm} (h:∀q,q<k→ocs (D'.O q).r (M'.sb q) (M'.sc q) (M'.ib q) (M'.ic q)=ocs (D.O q).r (M.sb q) (M.sc q) (M.ib q) (M.ic q)):lst D' M' k=lst D M k:=by
 induction k with
 | zero=>rfl
 | succ k ih=>show lst D' M' k++_=lst D M k++_;rw [ih fun q hq=>h q (by omega),h k (by omega)]
end
structure RP (w0 w:World) (ρ0 ρ:Nat→Rl) (b:Nat) (tb:List Value) (LA:Option Addr) (lc k:Nat) (D:Dc) (M:Mm):Prop where
 head:Blk w b 121 (tb++[.slice LA k lc])
 row:w.ownsRow w0.heap.size 128 8 (.slice LA k lc) k (lst D M k)
 caps:∀p,p<k→2≤M.sc p∧M.sc p≤9223372036854775807∧2≤M.ic p∧M.ic p≤9223372036854775807
 slot:∀p,p<k→∀j,j≤1→ROl w (sH ρ p j) (isD ρ) (M.sb p) (j*5) (M.SC p) ((D.O p).x j)
 imgs:∀p,p<k→Blk w (M.ib p) 40 (M.IC p)∧16≤(M.IC p).length
 img:∀p,p<k→∀j,j≤1→∃A m c,(∀i v,(igc (D.I p j) A m c)[i]?=some v→(M.IC p)[j*8+i]?=some v)∧Rd w A m c (u8n (D.I p j).xs)∧(0<m→∀q o,A=some ⟨q,o,none⟩→ρ q=.data)
 rb:ρ b=.head
 rl:∀i,(Value.slice LA k lc).ownBlock=some i→ρ i=.list
 rs:∀p,p<k→ρ (M.sb p)=.slots p
 ri:∀p,p<k→ρ (M.ib p)=.imgs p
 us:∀i p,ρ i=.slots p→i=M.sb p
 un:∀i r,ρ i=r→(r=.out∨r=.data∨r=.head∨r=.list∨(∃p,p<k∧(r=.slots p∨r=.imgs p∨r=.row p 0∨r=.row p 1)))
 lt:∀i,isO ρ i→i<w.heap.size
 new_:∀i,isO ρ i→isD ρ0 i∨w0.heap.size≤i
 dat:∀i,isD ρ0 i→isD ρ i
 bel:Bw w0 w
section
variable {w0 w:World} {ρ0 ρ:Nat→Rl} {b lc n:Nat} {tb:List Value} {LA:Option Addr} {D:Dc} {M:Mm}
theorem RP.done (h:RP w0 w ρ0 ρ b tb LA lc n D M) (h5:tb.length=5) (h1:1≤n) (h4:n≤4):∃M',RSt w ρ b tb n D M':=by
 rcases h.row.2 with⟨hv,h0⟩|⟨g,cap,cur,hv,_,hh,hnc,hcm,hcs,hx⟩
 ·simp only [Value.slice.injEq] at hv
  omega
 ·simp only [Value.slice.injEq] at hv
  obtain⟨rfl,_,rfl⟩:=hv
  refine⟨{ M with lb:=g,lc:=lc,LC:=cur.toList },h.head,h5,?_,⟨h4,hnc,by unfold maxLen at hcm;show lc≤_;omega⟩,fun p hp=>⟨?_,fun i v hi=>?_⟩,h.caps,h.slot,h.imgs,h.img,h.rb,h.rl g rfl,h.rs,h.ri,h.us,h.lt⟩
  ·show w.heap[g]?=_
   rw [hh]
  ·show p*8+8≤cur.toList.length
   rw [Array.length_toList,hcs]
   have:=Nat.mul_le_mul_right 8 hnc
   omega
  ·have hl:=lst_get (D:=D) (M:=M) hp hi
   show cur.toList[p*8+i]?=some v
   have hlt:=(List.getElem?_eq_some_iff.1 hl).1
   rw [K9] at hlt
   rw [←hx,List.getElem?_take,if_pos hlt] at hl
   exact hl
end
end StoU
namespace StoX
open Kit Byt Mem RecM StgM ImgT StoM StoV StoA StoE StoF StoU
open StgA (hd)
open RecA (rval rcells)
def own? (A:Option Addr) (n c:Nat):Option Nat:=(Value.slice A n c).ownBlock
structure Ly where
 SA:Option Addr
 sc:Nat
 IA:Option Addr
 ic:Nat
 E:Nat→List Sl
 A:Nat→Option Addr
 m:Nat→Nat
 c:Nat→Nat
 CA:Nat→Option Addr
 cm:Nat→Nat
 cc:Nat→Nat
def hds (o:Ow) (y:Ly):Nat→List Value
 | 0=>[]
 | k+1=>hds o y k++hd (o.x k) (y.A k) (y.m k) (y.c k)
def igs (I:Nat→Ig) (y:Ly):Nat→List Value
 | 0=>[]
 | k+1=>igs I y k++igc (I k) (y.CA k) (y.cm k) (y.cc k)
structure PS (w:World) (B ks ki:Nat) (o:Ow) (I:Nat→Ig) (ρ:Nat→Rl) (y:Ly):Prop where
 s:w.ownsRow B 125 5 (.slice y.SA ks y.sc) ks (hds o y ks)
 im:w.ownsRow B 40 8 (.slice y.IA ki y.ic) ki (igs I y ki)
 r:∀j,j<ks→w.ownsRow B 38 1 (.slice (y.A j) (y.m j) (y.c j)) (y.m j) ((y.E j).map Sl.val)
 sl:∀j,j<ks→(o.x j).bl=(y.E j).map (·.xs)∧∀e ∈ y.E j,Rd w e.A e.n e.c (u8n e.xs)∧∀q o',e.A=some ⟨q,o',none⟩→isD ρ q
 ig:∀j,j<ki→Rd w (y.CA j) (y.cm j) (y.cc j) (u8n (I j).xs)∧(0<y.cm j→∀q o',y.CA j=some ⟨q,o',none⟩→isD ρ q)
 a1:∀i,own? y.SA ks y.sc=some i→own? y.IA ki y.ic≠some i
 a2:∀j,j<ks→∀i,own? (y.A j) (y.m j) (y.c j)=some i→own? y.SA ks y.sc≠some i∧own? y.IA ki y.ic≠some i∧∀j',j'<ks→j'≠j→own? (y.A j') (y.m j') (y.c j')≠some i
theorem Zy {w:World} {B n size:Nat} {e:TypeId} {A:Option Addr} {c:Nat} {xs:List Value} (h:w.ownsRow B e size (.slice A n c) n xs) (hn:0<n) :
 ∃(g:Nat) (C:List Value),A=some ⟨g,0,none⟩∧B≤g∧g<w.heap.size∧Blk w g e C∧C.length=c*size∧n≤c∧c≤9223372036854775807∧(∀(i:Nat) (v:Value),xs[i]?=some v→C[i]?=some v):=by
 rcases h.2 with⟨hv,h0⟩|⟨g,cap,cur,hv,hb,hh,hnc,hcm,hcs,hx⟩
 ·simp only [Value.slice.injEq] at hv
  omega
 ·simp only [Value.slice.injEq] at hv
  obtain⟨rfl,_,rfl⟩:=hv
  refine⟨g,cur.toList,rfl,hb,lt_of_block hh,?_,by rw [Array.length_toList,hcs],hnc,by unfold maxLen at hcm;omega,fun i v hi=>?_⟩
  ·show w.heap[g]?=_
   rw [hh]
  ·rw [←hx,List.getElem?_take] at hi
   split at hi
   ·exact hi
   ·cases hi
theorem own_ge {w:World} {B n size:Nat} {e:TypeId} {A:Option Addr} {c:Nat} {xs:List Value} (h:w.ownsRow B e size (.slice A n c) n xs):∀i,own? A n c=some i→B≤i∧i<w.heap.size:=fun i hi=>h.lt i hi
section
variable {w0 w w2:World} {ρ0 ρ:Nat→Rl} {b lc lc' k B:Nat} {tb:List Value} {LA LA':Option Addr} {D:Dc} {M:Mm} {y:Ly} {G:Nat→Prop}
theorem hds_get {o:Ow} {j i:Nat} {v:Value} (hj:j<2) (hi:(hd (o.x j) (y.A j) (y.m j) (y.c j))[i]?=some v):(hds o y 2)[j*5+i]?=some v:=by
 have hi5:=(List.getElem?_eq_some_iff.1 hi).1
 rw [Tg] at hi5
 show (([]++hd (o.x 0) (y.A 0) (y.m 0) (y.c 0))++hd (o.x 1) (y.A 1) (y.m 1) (y.c 1))[j*5+i]?=some v
 rw [List.nil_append]
 rcases (show j=0∨j=1 by omega) with rfl|rfl
 ·rw [List.getElem?_append_left (by rw [Tg];omega),show 0*5+i=i from by omega]
  exact hi
 ·rw [List.getElem?_append_right (by rw [Tg];omega),Tg,show 1*5+i-5=i from by omega]
  exact hi
theorem igs_get {I:Nat→Ig} {j i:Nat} {v:Value} (hj:j<2) (hi:(igc (I j) (y.CA j) (y.cm j) (y.cc j))[i]?=some v):(igs I y 2)[j*8+i]?=some v:=by
 have hi5:i<8:=(List.getElem?_eq_some_iff.1 hi).1
 show (([]++igc (I 0) (y.CA 0) (y.cm 0) (y.cc 0))++igc (I 1) (y.CA 1) (y.cm 1) (y.cc 1))[j*8+i]?=some v
 rw [List.nil_append]
 rcases (show j=0∨j=1 by omega) with rfl|rfl
 ·rw [List.getElem?_append_left (by show 0*8+i<8;omega),show 0*8+i=i from by omega]
  exact hi
 ·rw [List.getElem?_append_right (by show 8≤1*8+i;omega),show 1*8+i-(igc (I 0) (y.CA 0) (y.cm 0) (y.cc 0)).length=i from by show 1*8+i-8=i;omega]
  exact hi
def rel (ρ:Nat→Rl) (k gs gi:Nat) (y:Ly) (LA':Option Addr) (lc':Nat) (i:Nat):Rl:=
 if i=gs then .slots k else if i=gi then .imgs k else if own? (y.A 0) (y.m 0) (y.c 0)=some i then .row k 0 else if own? (y.A 1) (y.m 1) (y.c 1)=some i then .row k 1 else if own? LA' (k+1) lc'=some i then .list else ρ i
theorem RP.next (h:RP w0 w ρ0 ρ b tb LA lc k D M) (K:Keep G w w2) (hG:∀i,isO ρ i→ρ i≠.head→ρ i≠.list→¬G i) (hb:Bw w0 w2) (hw0:w0.heap.size≤B) (hP:PS w2 B 2 2 (D.O k) (D.I k) ρ y) (hF:∀i,isO ρ i→own? y.SA 2 y.sc≠some i∧own? y.IA 2 y.ic≠some i∧own? (y.A 0) (y.m 0) (y.c 0)≠some i∧own? (y.A 1) (y.m 1) (y.c 1)≠some i)
 {gs gi:Nat} (hgs:y.SA=some ⟨gs,0,none⟩) (hgi:y.IA=some ⟨gi,0,none⟩)
 (hrow:w2.ownsRow w0.heap.size 128 8 (.slice LA' (k+1) lc') (k+1) (lst D M k++ocs (D.O k).r gs y.sc gi y.ic)) (hhead:Blk w2 b 121 (tb++[.slice LA' (k+1) lc']))
 (hL:∀i,own? LA' (k+1) lc'=some i→ρ i=.list∨(ρ i=.out∧i≠gs∧i≠gi∧own? (y.A 0) (y.m 0) (y.c 0)≠some i∧own? (y.A 1) (y.m 1) (y.c 1)≠some i)) :
 ∃ρ' M',RP w0 w2 ρ0 ρ' b tb LA' lc' (k+1) D M':=by
 obtain⟨gs',SC,e1,hs1,hs2,hs3,hs4,hs5,hs6,hs7⟩:=Zy hP.s (by omega)
 obtain rfl:gs'=gs:=by rw [hgs] at e1;injection e1 with e1;injection e1 with e1;exact e1.symm
 obtain⟨gi',IC,e2,hi1,hi2,hi3,hi4,hi5,hi6,hi7⟩:=Zy hP.im (by omega)
 obtain rfl:gi'=gi:=by rw [hgi] at e2;injection e2 with e2;injection e2 with e2;exact e2.symm
 obtain⟨ρ',hρ⟩:∃ρ',ρ'=rel ρ k gs' gi' y LA' lc':=⟨_,rfl⟩
 have hns:own? y.SA 2 y.sc=some gs':=by rw [hgs];rfl
 have hni:own? y.IA 2 y.ic=some gi':=by rw [hgi];rfl
 have hsi:gi'≠gs':=fun e=>hP.a1 gs' hns (by rw [hni,e])
 have hA0:=fun i (hi:own? (y.A 0) (y.m 0) (y.c 0)=some i)=>own_ge (hP.r 0 (by omega)) i hi
 have hA1:=fun i (hi:own? (y.A 1) (y.m 1) (y.c 1)=some i)=>own_ge (hP.r 1 (by omega)) i hi
 have hold:∀i,isO ρ i→ρ' i=ρ i:=fun i hi=>by
  have hlt:=hF i hi
  rw [hρ]
  unfold rel
  rw [if_neg (fun e=>hlt.1 (by rw [hns,e])),if_neg (fun e=>hlt.2.1 (by rw [hni,e])),if_neg hlt.2.2.1,if_neg hlt.2.2.2]
  by_cases e:own? LA' (k+1) lc'=some i
  ·rw [if_pos e]
   rcases hL i e with h1|h1
   ·exact h1.symm
   ·exact absurd h1.1 hi
  ·rw [if_neg e]
 have l1:ρ' gs'=.slots k:=by rw [hρ];unfold rel;rw [if_pos rfl]
 have l2:ρ' gi'=.imgs k:=by rw [hρ];unfold rel;rw [if_neg hsi,if_pos rfl]
 have l3:∀i,own? (y.A 0) (y.m 0) (y.c 0)=some i→ρ' i=.row k 0:=fun i hi=>by
  have h2:=hP.a2 0 (by omega) i hi
  rw [hρ];unfold rel
  rw [if_neg (fun e=>h2.1 (by rw [hns,e])),if_neg (fun e=>h2.2.1 (by rw [hni,e])),if_pos hi]
 have l4:∀i,own? (y.A 1) (y.m 1) (y.c 1)=some i→ρ' i=.row k 1:=fun i hi=>by
  have h2:=hP.a2 1 (by omega) i hi
  rw [hρ];unfold rel
  rw [if_neg (fun e=>h2.1 (by rw [hns,e])),if_neg (fun e=>h2.2.1 (by rw [hni,e])),if_neg (h2.2.2 0 (by omega) (by omega)),if_pos hi]
 have l5:∀i,own? LA' (k+1) lc'=some i→ρ' i=.list:=fun i hi=>by
  rcases hL i hi with h1|⟨_,h2,h3,h4,h5⟩
  ·rw [hold i (fun e=>by rw [h1] at e;cases e)];exact h1
  ·rw [hρ];unfold rel
   rw [if_neg h2,if_neg h3,if_neg h4,if_neg h5,if_pos hi]
 have hcas:∀i,ρ' i=ρ i∨(i=gs'∧ρ' i=.slots k)∨(i=gi'∧ρ' i=.imgs k)∨(own? (y.A 0) (y.m 0) (y.c 0)=some i∧ρ' i=.row k 0)∨(own? (y.A 1) (y.m 1) (y.c 1)=some i∧ρ' i=.row k 1)∨(own? LA' (k+1) lc'=some i∧ρ' i=.list):=fun i=>by
  by_cases c1:i=gs'
  ·exact .inr (.inl ⟨c1,by rw [c1];exact l1⟩)
  by_cases c2:i=gi'
  ·exact .inr (.inr (.inl ⟨c2,by rw [c2];exact l2⟩))
  by_cases c3:own? (y.A 0) (y.m 0) (y.c 0)=some i
  ·exact .inr (.inr (.inr (.inl ⟨c3,l3 i c3⟩)))
  by_cases c4:own? (y.A 1) (y.m 1) (y.c 1)=some i
  ·exact .inr (.inr (.inr (.inr (.inl ⟨c4,l4 i c4⟩))))
  by_cases c5:own? LA' (k+1) lc'=some i
  ·exact .inr (.inr (.inr (.inr (.inr ⟨c5,l5 i c5⟩))))
  ·refine .inl ?_
   rw [hρ];unfold rel
   rw [if_neg c1,if_neg c2,if_neg c3,if_neg c4,if_neg c5]
 have hlt2:∀i,isO ρ' i→i<w2.heap.size∧(isD ρ0 i∨w0.heap.size≤i):=fun i hi=>by
  rcases hcas i with c|⟨c,_⟩|⟨c,_⟩|⟨c,_⟩|⟨c,_⟩|⟨c,_⟩
  ·have hi':isO ρ i:=fun e=>hi (by rw [c];exact e)
   exact⟨Mw (h.lt i hi') K.size,h.new_ i hi'⟩
  ·exact⟨by omega,.inr (by omega)⟩
  ·exact⟨by omega,.inr (by omega)⟩
  ·have:=hA0 i c;exact⟨this.2,.inr (by omega)⟩
  ·have:=hA1 i c;exact⟨this.2,.inr (by omega)⟩
  ·have h3:=(hrow.lt i c);exact⟨h3.2,.inr h3.1⟩
 have hdat:∀i,isD ρ' i↔isD ρ i:=fun i=>by
  constructor
  ·intro hi
   have hi:ρ' i=.data:=hi
   rcases hcas i with c|⟨_,c⟩|⟨_,c⟩|⟨_,c⟩|⟨_,c⟩|⟨_,c⟩
   ·show ρ i=.data;rw [←c];exact hi
   all_goals rw [hi] at c;cases c
  ·intro hi
   show ρ' i=.data
   rw [hold i (fun e=>by rw [show ρ i=.data from hi] at e;cases e)]
   exact hi
 have hnk:∀i,ρ i≠.slots k∧ρ i≠.imgs k∧∀j,ρ i≠.row k j:=fun i=>by
  refine⟨fun e=>?_,fun e=>?_,fun j e=>?_⟩
  all_goals
   rcases h.un i _ e with c|c|c|c|⟨p,hp,c|c|c|c⟩
   all_goals first
    | (cases c;omega)
    | cases c
 refine⟨ρ',{ M with sb:=upd M.sb k gs',sc:=upd M.sc k y.sc,SC:=upd M.SC k SC,ib:=upd M.ib k gi',ic:=upd M.ic k y.ic,IC:=upd M.IC k IC },?_⟩
 have hsO:∀{p j i},sH ρ p j i→isO ρ i:=fun {p j i} hi e=>by rcases hi with hi|hi <;> rw [hi] at e <;> cases e
 have hsO':∀{p j i},sH ρ' p j i→isO ρ' i:=fun {p j i} hi e=>by rcases hi with hi|hi <;> rw [hi] at e <;> cases e
 have hdO':∀{i},isD ρ' i→isO ρ' i:=fun {i} hi e=>by rw [show ρ' i=.data from hi] at e;cases e
 have hdis:∀p j i,sH ρ' p j i→¬isD ρ' i:=fun p j i hi hd=>by
  have hd:ρ' i=.data:=hd
  rcases hi with hi|hi <;> rw [hd] at hi <;> cases hi
 have ho1:∀{p j i},sH ρ p j i→sH ρ' p j i:=fun {p j i} hi=>by
  unfold sH
  rw [hold i (hsO hi)]
  exact hi
 have hkp:∀{p:Nat},p<k+1→p≠k→p<k:=fun h1 h2=>by omega
 have hro:∀j,j≤1→∀i,own? (y.A j) (y.m j) (y.c j)=some i→ρ' i=.row k j∧i≠gs':=fun j hj i hi=>by
  have h2:=hP.a2 j (by omega) i hi
  refine⟨?_,fun e=>h2.1 (by rw [hns,e])⟩
  rcases (show j=0∨j=1 by omega) with rfl|rfl
  ·exact l3 i hi
  ·exact l4 i hi
 refine⟨hhead,?_,fun p hp=>?_,fun p hp j hj=>?_,fun p hp=>?_,fun p hp j hj=>?_,?_,l5,fun p hp=>?_,fun p hp=>?_,fun i p hi=>?_,fun i r hr=>?_,fun i hi=>(hlt2 i hi).1,fun i hi=>(hlt2 i hi).2,fun i hi=>(hdat i).2 (h.dat i hi),hb⟩
 ·have e:lst D { M with sb:=upd M.sb k gs',sc:=upd M.sc k y.sc,SC:=upd M.SC k SC,ib:=upd M.ib k gi',ic:=upd M.ic k y.ic,IC:=upd M.IC k IC } (k+1)=lst D M k++ocs (D.O k).r gs' y.sc gi' y.ic:=by
   show lst D _ k++ocs _ (upd M.sb k gs' k) (upd M.sc k y.sc k) (upd M.ib k gi' k) (upd M.ic k y.ic k)=_
   rw [Qw,Qw,Qw,Qw]
   congr 1
   refine qxw fun q hq=>?_
   show ocs _ (upd M.sb k gs' q) (upd M.sc k y.sc q) (upd M.ib k gi' q) (upd M.ic k y.ic q)=_
   have hne:q≠k:=by omega
   rw [upd_ne _ _ hne,upd_ne _ _ hne,upd_ne _ _ hne,upd_ne _ _ hne]
  rw [e]
  exact hrow
 ·show 2≤upd M.sc k y.sc p∧upd M.sc k y.sc p≤_∧2≤upd M.ic k y.ic p∧upd M.ic k y.ic p≤_
  by_cases e:p=k
  ·subst e
   rw [Qw,Qw]
   exact⟨hs5,hs6,hi5,hi6⟩
  ·rw [upd_ne _ _ e,upd_ne _ _ e]
   exact h.caps p (hkp hp e)
 ·show ROl w2 _ _ (upd M.sb k gs' p) (j*5) (upd M.SC k SC p) _
  by_cases e:p=k
  ·subst e
   rw [Qw,Qw]
   have hf:j*5+(hd ((D.O p).x j) (y.A j) (y.m j) (y.c j)).length≤SC.length:=by rw [Tg,hs4];omega
   have hsl:=hP.sl j (by omega)
   refine⟨y.E j,y.A j,y.m j,y.c j,⟨?_,by rw [hs4];omega,StgD.qj6 (hP.r j (by omega)) (Nat.zero_le _),hsl.1,fun q hq=>⟨(hsl.2 q hq).1,fun r o hA=>(hdat r).2 ((hsl.2 q hq).2 r o hA)⟩,.inl l1,fun i hi=>⟨.inr (hro j hj i hi).1,(hro j hj i hi).2⟩,fun i hi=>(hlt2 i (hsO' hi)).1,fun i hi=>(hlt2 i (hdO' hi)).1,hdis p j⟩⟩
   rw [qxv hf fun i v hi=>hs7 _ v (hds_get (by omega) hi)]
   exact hs3
  ·rw [upd_ne _ _ e,upd_ne _ _ e]
   refine ROl.mono ((h.slot p (hkp hp e) j hj).keep K (fun i hi=>hG i (hsO hi) (fun e2=>?_) (fun e2=>?_)) (fun i hi=>hG i (fun e2=>?_) (fun e2=>?_) (fun e2=>?_))) (fun i hi=>ho1 hi) (fun i hi=>(hdat i).2 hi) (fun i hi=>(hlt2 i (hsO' hi)).1) (fun i hi=>(hlt2 i (hdO' hi)).1) (hdis p j)
   ·rcases hi with hi|hi <;> rw [hi] at e2 <;> cases e2
   ·rcases hi with hi|hi <;> rw [hi] at e2 <;> cases e2
   all_goals (rw [show ρ i=.data from hi] at e2;cases e2)
 ·show Blk w2 (upd M.ib k gi' p) _ (upd M.IC k IC p)∧16≤(upd M.IC k IC p).length
  by_cases e:p=k
  ·subst e
   rw [Qw,Qw]
   exact⟨hi3,by rw [hi4];omega⟩
  ·rw [upd_ne _ _ e,upd_ne _ _ e]
   have hr:=h.ri p (hkp hp e)
   exact⟨K.blk (h.imgs p (hkp hp e)).1 (hG _ (fun e2=>by rw [hr] at e2;cases e2) (by rw [hr];simp) (by rw [hr];simp)),(h.imgs p (hkp hp e)).2⟩
 ·show ∃A m c,(∀i v,_→(upd M.IC k IC p)[j*8+i]?=some v)∧_
  by_cases e:p=k
  ·subst e
   rw [Qw]
   have hg:=hP.ig j (by omega)
   exact⟨y.CA j,y.cm j,y.cc j,fun i v hi=>hi7 _ v (igs_get (by omega) hi),hg.1,fun hm q o hA=>(hdat q).2 (hg.2 hm q o hA)⟩
  ·rw [upd_ne _ _ e]
   obtain⟨A,m,c,h1,h2,h3⟩:=h.img p (hkp hp e) j hj
   refine⟨A,m,c,h1,K.rd h2 fun hm q o hA=>?_,fun hm q o hA=>(hdat q).2 (h3 hm q o hA)⟩
   have hq:=h3 hm q o hA
   exact hG q (fun e2=>by rw [hq] at e2;cases e2) (by rw [hq];simp) (by rw [hq];simp)
 ·rw [hold b (fun e=>by rw [h.rb] at e;cases e)];exact h.rb
 ·show ρ' (upd M.sb k gs' p)=_
  by_cases e:p=k
  ·subst e;rw [Qw];exact l1
  ·rw [upd_ne _ _ e,hold _ (fun e2=>by rw [h.rs p (hkp hp e)] at e2;cases e2)];exact h.rs p (hkp hp e)
 ·show ρ' (upd M.ib k gi' p)=_
  by_cases e:p=k
  ·subst e;rw [Qw];exact l2
  ·rw [upd_ne _ _ e,hold _ (fun e2=>by rw [h.ri p (hkp hp e)] at e2;cases e2)];exact h.ri p (hkp hp e)
 ·show i=upd M.sb k gs' p
  rcases hcas i with c|⟨c,c'⟩|⟨_,c⟩|⟨_,c⟩|⟨_,c⟩|⟨_,c⟩
  ·rw [c] at hi
   have hpk:p≠k:=fun e=>(hnk i).1 (by rw [hi,e])
   rw [upd_ne _ _ hpk]
   exact h.us i p hi
  ·rw [hi] at c'
   injection c' with c'
   rw [c',Qw]
   exact c
  all_goals (rw [hi] at c;cases c)
 ·rcases hcas i with c|⟨_,c⟩|⟨_,c⟩|⟨_,c⟩|⟨_,c⟩|⟨_,c⟩
  ·rw [c] at hr
   rcases h.un i r hr with c1|c1|c1|c1|⟨p,hp,c1⟩
   ·exact .inl c1
   ·exact .inr (.inl c1)
   ·exact .inr (.inr (.inl c1))
   ·exact .inr (.inr (.inr (.inl c1)))
   ·exact .inr (.inr (.inr (.inr ⟨p,by omega,c1⟩)))
  ·exact .inr (.inr (.inr (.inr ⟨k,by omega,.inl (by rw [←hr,c])⟩)))
  ·exact .inr (.inr (.inr (.inr ⟨k,by omega,.inr (.inl (by rw [←hr,c]))⟩)))
  ·exact .inr (.inr (.inr (.inr ⟨k,by omega,.inr (.inr (.inl (by rw [←hr,c])))⟩)))
  ·exact .inr (.inr (.inr (.inr ⟨k,by omega,.inr (.inr (.inr (by rw [←hr,c])))⟩)))
  ·exact .inr (.inr (.inr (.inl (by rw [←hr,c]))))
end
end StoX
namespace StoZ
open Mem RecM ImgT StoM StoV StoE StoU StoX
open StgA (hd)
open RecA (rval rcells)
open Classical in
noncomputable def rl0 (ρ0:Nat→Rl) (xb:Nat) (i:Nat):Rl:=if i=xb then .head else if ρ0 i=.data then .data else .out
def y0:Ly:=⟨none,0,none,0,fun _=>[],fun _=>none,fun _=>0,fun _=>0,fun _=>none,fun _=>0,fun _=>0⟩
section
variable {w w':World} {ρ0 ρ:Nat→Rl} {b n:Nat} {tb:List Value} {D:Dc} {M:Mm}
theorem RP.zero0 (hd:∀i,isD ρ0 i→i<w.heap.size) (hb:Bw w w') (hB:Blk w' w.heap.size 121 (tb++[.slice none 0 0])):RP w w' ρ0 (rl0 ρ0 w.heap.size) w.heap.size tb none 0 0 D M:=by
 refine⟨hB,World.ownsRow_nil _ _ _ _,fun p hp=>absurd hp (by omega),fun p hp=>absurd hp (by omega),fun p hp=>absurd hp (by omega),fun p hp=>absurd hp (by omega),?_,fun i hi=>?_,fun p hp=>absurd hp (by omega),fun p hp=>absurd hp (by omega),fun i p hi=>?_,fun i r hr=>?_,fun i hi=>?_,fun i hi=>?_,fun i hi=>?_,hb⟩
 ·unfold rl0;rw [if_pos rfl]
 ·simp [Value.ownBlock] at hi
 ·unfold rl0 at hi
  split at hi
  ·cases hi
  ·split at hi <;> cases hi
 ·unfold rl0 at hr
  split at hr
  ·exact .inr (.inr (.inl hr.symm))
  ·split at hr
   ·exact .inr (.inl hr.symm)
   ·exact .inl hr.symm
 ·have hs:=hb.size
  have hl:=hB.lt
  by_cases e:i=w.heap.size
  ·omega
  ·by_cases e2:ρ0 i=.data
   ·have:=hd i e2;omega
   ·exact absurd (by unfold rl0;rw [if_neg e,if_neg e2]) hi
 ·by_cases e:i=w.heap.size
  ·exact .inr (by omega)
  ·by_cases e2:ρ0 i=.data
   ·exact .inl e2
   ·exact absurd (by unfold rl0;rw [if_neg e,if_neg e2]) hi
 ·have:=hd i hi
  show rl0 ρ0 w.heap.size i=.data
  unfold rl0
  rw [if_neg (by omega),if_pos (show ρ0 i=.data from hi)]
end
def bx8 (r:Rc) (y:Ly) (ks ki:Nat):List Value:=[.int .i64 r.p,.int .i64 r.q,.int .i64 r.a,.int .i64 r.c,.int .i64 r.l,.int .i64 r.b,.slice y.SA ks y.sc,.slice y.IA ki y.ic]
section
variable {wr wi w2 w3:World} {ks ki:Nat} {o:Ow} {I:Nat→Ig} {ρ:Nat→Rl} {y:Ly}
theorem own_blw {w w':World} {b size:Nat} {e:TypeId} {v:Value} {n:Nat} {xs:List Value} (h:w.ownsRow b e size v n xs) (hb:Bw w w'):w'.ownsRow b e size v n xs:=(Keep.of_below (F:=fun _=>False) hb).own h fun _ _ h=>h
theorem PS.keep {w w':World} {B:Nat} {G:Nat→Prop} (h:PS w B ks ki o I ρ y) (K:Keep G w w') (hG:∀i,G i→i<B) (hD:∀i,isD ρ i→¬G i):PS w' B ks ki o I ρ y:=
 ⟨K.own h.s fun i hi e=>by have:=(own_ge h.s i hi).1;have:=hG i e;omega,K.own h.im fun i hi e=>by have:=(own_ge h.im i hi).1;have:=hG i e;omega,fun j hj=>K.own (h.r j hj) fun i hi e=>by have:=(own_ge (h.r j hj) i hi).1;have:=hG i e;omega,
  fun j hj=>⟨(h.sl j hj).1,fun e he=>⟨K.rd ((h.sl j hj).2 e he).1 fun _ q o' hA=>hD q (((h.sl j hj).2 e he).2 q o' hA),((h.sl j hj).2 e he).2⟩⟩,fun j hj=>⟨K.rd (h.ig j hj).1 fun hm q o' hA=>hD q ((h.ig j hj).2 hm q o' hA),(h.ig j hj).2⟩,h.a1,h.a2⟩
theorem own_mono {w:World} {b b' size:Nat} {e:TypeId} {v:Value} {n:Nat} {xs:List Value} (h:w.ownsRow b' e size v n xs) (hb:b≤b'):w.ownsRow b e size v n xs:=by
 refine⟨h.1,?_⟩
 rcases h.2 with h0|⟨g,cap,cur,e1,e2,rest⟩
 ·exact .inl h0
 ·exact .inr ⟨g,cap,cur,e1,Ml hb e2,rest⟩
end
end StoZ
namespace StoK
open Byt RecM StgM BitM ShaM
def bk (xs:List Nat) (j:Nat):List Nat:=(xs.drop (16*j)).take 16++List.replicate (16-(xs.length-16*j)) 0
theorem bk_len (xs:List Nat) (j:Nat):(bk xs j).length=16:=by
 unfold bk
 rw [Ma,List.length_replicate,Mk_,List.length_drop]
 omega
theorem bk_ne (xs:List Nat) (j:Nat):bk xs j≠[]:=fun e=>by have:=bk_len xs j;rw [e] at this;simp at this
theorem bk_by {xs:List Nat} (h:by256 xs) (j:Nat):by256 (bk xs j):=fun c hc=>by
 unfold bk at hc
 rcases List.mem_append.1 hc with h1|h1
 ·exact h c (List.mem_of_mem_drop (List.mem_of_mem_take h1))
 ·rw [(List.mem_replicate.1 h1).2];omega
structure Ld (xs:List Nat) (q:Int) (j:Nat) (x:Rf):Prop where
 wf:x.wf
 has:x.has=true
 s:x.g.s=q
 z:x.g.z=(xs.length:Nat)
 each:∀i,i<x.bl.length→x.bl.getD i []=if i<j then bk xs i else []
section
variable {xs:List Nat} {q:Int} {j:Nat} {x:Rf}
theorem Ld.len (h:Ld xs q j x):x.bl.length=blocks (xs.length:Nat):=by rw [h.wf.len h.has,h.z]
theorem W6 {z:Int} (hq:1≤q∧q≤65535) (h:1≤z∧z≤160):(fresh q z).right:=by
 refine⟨hq,h,by show (0:Int)≤0;omega,?_⟩
 show (0:Int)<2 ^ blocks z
 have h2:1≤2 ^ blocks z:=Nat.one_le_two_pow
 have h3:((2 ^ blocks z:Nat):Int)=(2:Int) ^ blocks z:=by simp
 omega
theorem ld_first (x:Rf) (hq:1≤q∧q≤65535) (h:1≤xs.length∧xs.length≤160):(rB x q (xs.length:Nat)).2=0∧Ld xs q 0 (rB x q (xs.length:Nat)).1:=by
 have hr:=W6 (z:=((xs.length:Nat):Int)) hq (by omega)
 unfold rB
 rw [if_pos hr]
 refine⟨rfl,Kl hr,rfl,rfl,rfl,fun k hk=>?_⟩
 have hk':k<blocks (xs.length:Nat):=by simpa using hk
 show (List.replicate (blocks (xs.length:Nat)) []).getD k []=_
 rw [Mg,List.getElem?_replicate,if_pos hk',if_neg (by omega)]
 rfl
theorem ld_put (h:Ld xs q j x) (hj:j<x.bl.length):(rP x q j (bk xs j)).2=0∧Ld xs q (j+1) (rP x q j (bk xs j)).1:=by
 have hb':x.bl.getD j []=[]:=by rw [h.each j hj,if_neg (by omega)]
 have hw:StgA.rW x q j (bk xs j).length=0:=by
  unfold StgA.rW
  rw [if_neg (by rw [h.has];simp),if_neg (by rw [h.s];simp),if_neg (by omega),if_neg (by rw [bk_len];simp)]
 rw [StgC.rP_same hw,show ((j:Int)).toNat=j from by omega,if_neg (by rw [hb'];simp)]
 have hy:=rP_yes h.wf h.has hj (bk_len xs j) hb'
 refine⟨rfl,hy.2,rfl,h.s,h.z,fun i hi=>?_⟩
 have hi':i<x.bl.length:=by simpa using hi
 show (x.bl.set j (bk xs j)).getD i []=_
 rw [StgP.Ql _ hj]
 by_cases e:j=i
 ·rw [if_pos e,if_pos (by omega),e]
 ·rw [if_neg e,h.each i hi']
  by_cases e2:i<j
  ·rw [if_pos e2,if_pos (by omega)]
  ·rw [if_neg e2,if_neg (by omega)]
def cat (xs:List Nat):Nat→List Nat
 | 0=>[]
 | m+1=>cat xs m++bk xs m
theorem cat_eq (xs:List Nat) (m:Nat):cat xs m=xs.take (16*m)++List.replicate (16*m-xs.length) 0:=by
 induction m with
 | zero=>simp [cat]
 | succ m ih=>
   show cat xs m++bk xs m=_
   rw [ih]
   unfold bk
   have e:xs.take (16*(m+1))=xs.take (16*m)++(xs.drop (16*m)).take 16:=by
    rw [show 16*(m+1)=16*m+16 from by omega,List.take_add]
   rw [e]
   by_cases h:16*m≤xs.length
   ·rw [show 16*m-xs.length=0 from by omega,List.replicate_zero,List.append_nil,List.append_assoc]
    congr 2
    rw [show 16-(xs.length-16*m)=16*(m+1)-xs.length from by omega]
   ·have hd:xs.drop (16*m)=[]:=List.drop_eq_nil_of_le (by omega)
    rw [hd,List.take_nil,List.nil_append,List.append_nil,List.append_assoc,List.replicate_append_replicate]
    congr 2
    omega
theorem ld_all (h:Ld xs q (blocks (xs.length:Nat)) x) (hn:1≤xs.length∧xs.length≤160):rY x=(xs,0):=by
 have hl:=h.len
 have hall:∀k,k<x.bl.length→x.bl.getD k []=bk xs k:=fun k hk=>by rw [h.each k hk,if_pos (by omega)]
 have hflat:x.bl.flatten=cat xs x.bl.length:=by
  have e:∀m,m≤x.bl.length→(x.bl.take m).flatten=cat xs m:=by
   intro m
   induction m with
   | zero=>intro _;simp [cat]
   | succ m ih=>
     intro hm
     rw [StgD.Tv (by omega),ih (by omega),hall m (by omega)]
     rfl
  have:=e x.bl.length (Mr _)
  rwa [List.take_length] at this
 unfold rY
 rw [if_neg (by rw [h.has];simp),if_neg,hflat,hl,h.z,cat_eq]
 ·have hb:xs.length≤16*blocks (xs.length:Nat):=by unfold blocks;omega
  rw [Mt hb]
  show ((xs++_).take ((xs.length:Nat):Int).toNat,(0:Int))=_
  rw [show (((xs.length:Nat):Int)).toNat=xs.length from by omega,List.take_left]
 intro hm
 obtain⟨i,hi,e⟩:=List.getElem_of_mem hm
 have h1:=hall i hi
 rw [Mg,Mq hi] at h1
 exact bk_ne xs i (h1.symm.trans e)
def ldX (xs:List Nat) (q:Int) (x:Rf):Nat→Rf
 | 0=>(rB x q (xs.length:Nat)).1
 | j+1=>(rP (ldX xs q x j) q j (bk xs j)).1
theorem ldx (x:Rf) (hq:1≤q∧q≤65535) (hn:1≤xs.length∧xs.length≤160):∀j,j≤blocks (xs.length:Nat)→Ld xs q j (ldX xs q x j)
 | 0,_=>(ld_first x hq hn).2
 | j+1,hj=>by
   have h:=ldx x hq hn j (by omega)
   exact (ld_put h (by rw [h.len];omega)).2
end
end StoK
namespace ImgC
open ImgA
theorem Z4 {P:Program} {fn:Func} {p:Tmp} {ty:TypeId} {R:Ending→World→Prop} {a:Act} {w:World} {g:Nat} {t:TypeId} {cs:Array Value} {fr:Nat×Nat} {d:TypeDesc} (h:fn.results = #[.cell p ty]) (h0:a.defers=[])
 (hp:a.tmps.getD p undef=.pointer (some ⟨g,0,none⟩)) (hg:w.heap[g]?=some (.cells cs t fr)) (hu:P.underlying ty=some d) (hd:(match d with | .struct _ | .array _ _=>true|_=>false)=true) (hi:(P.info? ty).map (·.size)=some cs.size)
 (hR:R (.returned (.agg cs)) w):bodyPost P fn R .ret a w:=
 bodyPost_ret (results_cell_row h _ w g t cs fr d hp hg hu hd hi) h0 hR
end ImgC
end Go.Proofs.YtecncggeomcdbaaGreatDoor
