/- Parts of the proof, each under the conditions that it names. -/
import Derived.Test.YtpidbddllnidhaaGreatDoorO05
import Derived.Laws.OwnMore
import Derived.Laws.BytesArg
import Derived.Lib.Bytes
import Derived.Deep.Strs
set_option maxRecDepth 100000
set_option maxHeartbeats 12800000
namespace Go.Proofs.YtpidbddllnidhaaGreatDoor
open Go.RowKit
namespace ShaJ
open Kit Byt ShaM ShaB ShaC ShaK ShaE ShaF ShaG ShaH ShaI
theorem Wh {P:Program} {ops:Array Oper} {rest:List Oper} {o:Oper} {a:Act} {w:World} {Q:Exit→Act→World→Prop} (hg:o.guard=none) (t:TypeId) (parts:Array (Nat×Operand)) (ho:o.op=.build t parts)
 (cells:Array Value) (hc:P.built t (parts.map fun (i,x)=>(i,a.eval x)).toList=some cells) (h:wpList P ops Q rest (a.put o.dst (.agg cells)) w):wpList P ops Q (o :: rest) a w:=
 wpList_build hg t parts ho (by rw [hc];rfl) (by rw [hc];exact h)
theorem qzm:Tryz.prog.built 237 [(0,.agg (ws w0))]=some (hc w0 (List.replicate 64 0) 0).toArray:=by kernel_rfl
theorem K2 (w:World):Calls Tryz.prog 137 #[] w fun e w'=>∃g,e=.returned (.pointer (some ⟨g,0,none⟩))∧w.heap.size≤g∧Hs w' g []∧Bw w w':=by
 obtain⟨Y,hY⟩:∃Y:Array Value,Y=(hc w0 (List.replicate 64 0) 0).toArray:=⟨_,rfl⟩
 have hbn:=qzm
 rw [←hY] at hbn
 have HB:=Hz hbn
 have HY:=Hz hY
 clear hY hbn
 go_enter Tryz.func137,Tryz.ntmps137
 go_wp2_with (first
  | (go_at_call 167;refine (first_any _).mono ?_;rintro e w1 ⟨rfl,hb1⟩)
  | (refine Wh rfl 237 _ rfl Y (by simpa [Act.eval] using HB.o) ?_))
 go_ret
 have hB:Blk (w1.alloc (.cells Y 237)) w1.heap.size 237 (hc w0 (List.replicate 64 0) 0):=Blk_at HY.o rfl
 exact⟨w1.heap.size,rfl,hb1.size,⟨List.replicate 64 0,by simp,fun c hc=>by rw [(List.mem_replicate.1 hc).2];decide,by simp,hB⟩,hb1.alloc hb1.size _⟩
theorem Zz {w:World} {base n c:Nat} {e:TypeId} {A:Option Addr} {xs:List Value} (h:w.ownsRow base e 1 (.slice A n c) n xs) (hn:0<n):∃g,A=some ⟨g,0,none⟩∧base≤g∧g<w.heap.size:=by
 rcases h.2 with⟨hv,h0⟩|⟨g,cap',cur,hv,hb,hh,_⟩
 ·omega
 ·simp only [Value.slice.injEq] at hv
  exact⟨g,hv.1,hb,lt_of_block hh⟩
theorem zero51 (w:World):(zeroValue 237).run Tryz.prog w=.ok (.agg (hc ⟨0,0,0,0,0,0,0,0⟩ (List.replicate 64 0) 0).toArray) w:=by kernel_rfl
theorem qzn:(Tryz.prog.info? 237).map (·.size)=some 73:=by kernel_rfl
theorem hc_one (u:W8) (op:List Nat) (n:Nat):∀v ∈ hc u op n,v.oneCell'=true:=by
 intro v hv
 simp only [hc,List.mem_append,List.mem_singleton] at hv
 rcases hv with hv|hv|hv
 ·exact u32n_one _ v hv
 ·exact u8n_one _ v hv
 ·subst hv;rfl
theorem src_own {w:World} {g n c:Nat} {A:Option Addr} {xs:List Nat} {base:Nat} {e:TypeId} (h:w.ownsRow base e 1 (.slice A n c) n (u8n xs)) (hg:g<base):Src w g A n c xs:=
 ⟨Rd.own h,fun hn b o hA=>by
  obtain⟨g',hA',hb,_⟩:=Zz h hn
  rw [hA] at hA'
  injection hA' with hA'
  injection hA' with hb'
  omega⟩
theorem sum_any (g:Nat) (l:List Nat) (w:World) (hT:Tab w) (hH:Hs w g l) (hl:by256 l) (hbd:l.length<549755813888) :
 Calls Tryz.prog 169 #[.pointer (some ⟨g,0,none⟩)] w fun e w'=>e=.returned (.agg (u8n (dig l)).toArray)∧Bw w w':=by
 obtain⟨op,h1,h2,h3,hB⟩:=hH
 obtain⟨u,hu⟩:∃u,u=bk l (l.length/64):=⟨_,rfl⟩
 rw [←hu] at hB
 have cL:w.cell? ⟨g,72,none⟩=some (.int .i64 (l.length:Int)):=hB.cell (hc_long h1)
 have hgl:=hB.lt
 have H1:=Hz h1
 have H3:=Hz h3
 have HB:=Hz hB
 have Hu:=Hz hu
 have HT:=Hz hT
 have hz:=zero51
 have hz32:=zero32
 obtain⟨Z,hZ⟩:∃Z:Array Value,Z=(hc ⟨0,0,0,0,0,0,0,0⟩ (List.replicate 64 0) 0).toArray:=⟨_,rfl⟩
 obtain⟨Z2,hZ2⟩:∃Z2:Array Value,Z2=(u8n (List.replicate 32 0)).toArray:=⟨_,rfl⟩
 simp only [←hZ] at hz
 simp only [←hZ2] at hz32
 have HZ:=Hz hZ
 have HZ2:=Hz hZ2
 clear hZ hZ2 hu hB h1 h3 hT
 obtain⟨L,hL⟩:∃L,L=l.length:=⟨_,rfl⟩
 rw [←hL] at cL hbd
 have HL:=Hz hL
 clear hL
 have hi:=Hz (show (Tryz.prog.info? 237).map (·.size)=some (hc u op l.length).length by rw [hc_len H1.o];exact qzn)
 go_enter Tryz.func169,Tryz.ntmps169
 go_wp2_with (first
  | (refine Qj rfl 237 (.tmp 8) rfl g rfl (HB.o.alloc _) Tryz.underlying237 rfl hi.o ?_)
  | (refine Qq rfl 237 (.tmp 3) (.tmp 9) rfl (w.heap.size+1) rfl (hc u op l.length) rfl (Blk_at HZ.o (by simp)) (by rw [hc_len H1.o,hc_len (by simp)]) hi.o (hc_one _ _ _) ?_;intro w3 hB3 ho3;have hb3:=ho3.o.below (((Mb w.heap.size w).alloc (Mr _) (.cells Z2 239)).alloc (by simp) (.cells Z 237)) (by omega) (by simp;omega);have hR3:=Hz (ho3.o.blk (Blk.alloc (Blk_at (n:=w.heap.size) HZ2.o rfl) _) (by omega));have cL3:=(hb3.cell (p:=⟨g,72,none⟩) hgl).trans cL;have hs3:w.heap.size+2≤w3.heap.size:=(by have:=ho3.o.2;simp at this;omega);clear cL))
 have hH3:Hs w3 (w.heap.size+1) l:=⟨op,H1.o,h2,H3.o,by rw [←Hu.o];exact hB3.o⟩
 have hH:=Hz hH3
 clear hH3 hB3 ho3 cL3 HB H3 H1 hi hz hz32
 refine (ending_any L w3 (by omega)).mono ?_
 rintro e w4 ⟨A,n,c,hn,rfl,hown,hb4⟩
 have hS4:=Hz (src_own (g:=w.heap.size+1) hown (by omega))
 have hb4':=hb3.trans (hb4.mono hb3.size)
 have hlen:=Hz (tail_len l.length)
 have hzl:=zs_lt l.length
 go_wp2_with fail
 refine (write_any (w.heap.size+1) A n c (tail l.length) l w4 (HT.o.below hb4' HT.o.1) (by omega) (hH.o.below hb4) (by rw [←HL.o];exact (HL.o▸hS4.o)) (tail_lt _) (by rw [hlen.o,←HL.o];rw [←HL.o] at hzl;omega)).mono ?_
 rintro e w5 ⟨rfl,hH5,hg5⟩
 have hR5:=Hz (show Blk w5 w.heap.size 239 (u8n (List.replicate 32 0)) from (hg5.block w.heap.size (by have:=hb4.size;omega) (by simp)).trans (hR3.o.below hb4))
 have hb5:=hb4'.grown hg5 hb4'.size (fun k hk=>by injection hk with hk;omega)
 obtain⟨op5,h15,_,_,hB5⟩:=hH5
 have hdig:Hid (dig l=bys (bk (l++tail l.length) ((l++tail l.length).length/64))):=Hz rfl
 have hok:=bk_ok (l++tail l.length) ((l++tail l.length).length/64)
 generalize bk (l++tail l.length) ((l++tail l.length).length/64)=u5 at *
 have HB5:=Hz hB5
 have h46:=Hz (show (Tryz.prog.info? 233).map (·.size)=some (wl u5).length by rw [Jv];exact Q5)
 have hby:=fun W=>Wl u5 W hok
 rw [←wl_ws,←hdig.o] at hby
 have hsz5:=hg5.size
 clear hB5 hg5 hown hn hR3
 go_wp2_with (first
  | (refine Qz rfl 233 (.tmp 16) rfl (w.heap.size+1) 0 rfl (wl u5) HB5.o (by rw [Jv];rfl) Tryz.underlying233 rfl h46.o ?_)
  | (go_at_call 190;refine (hby _).mono ?_;rintro e w6 ⟨rfl,hb6⟩)
  | (refine Qq rfl 239 (.tmp 2) (.tmp 18) rfl w.heap.size rfl (u8n (dig l)) rfl (hR5.o.below hb6) (by rw [Qv,Qv,Vn,List.length_replicate]) (by rw [Qv,Vn];exact Gz) (u8n_one _) ?_;intro w7 hB7 ho7))
 exact Z4 Tryz.results169 rfl rfl hB7.o Tryz.underlying239 rfl (by rw [List.size_toArray,Qv,Vn];exact Gz) ⟨rfl,ho7.o.below (hb5.trans (hb6.mono hb5.size)) (Mr _) (by have:=hb6.size;have:=hb5.size;omega)⟩
end ShaJ
namespace CrcA
open Kit CrcM
theorem and1 {y:Nat} (hy:y<4294967296):bits .and .u32 (y:Int) 1=((y%2:Nat):Int):=by
 have:=u32_and_nat y 1 hy (by decide)
 rw [nat_mask1] at this
 exact this
theorem xorP {y:Nat} (hy:y<4294967296):bits .xor .u32 ((y:Int)/2) 3988292384=((y/2^^^3988292384:Nat):Int):=by
 have:=u32_xor_nat (y/2) 3988292384 (by omega) (by decide)
 rw [←this]
 simp
theorem qxu {y:Nat} (hy:y<4294967296) (h:(bits .and .u32 (y:Int) 1==1)=true):bits .xor .u32 ((y:Int)/2) 3988292384=(stp y:Nat):=by
 rw [and1 hy] at h
 have h:y%2=1:=by simp at h;omega
 rw [xorP hy]
 unfold stp
 rw [if_pos h]
theorem qzo {y:Nat} (hy:y<4294967296) (h:(bits .and .u32 (y:Int) 1==1)=false):(y:Int)/2=(stp y:Nat):=by
 rw [and1 hy] at h
 have h : ¬y%2=1:=by simp at h;omega
 unfold stp
 rw [if_neg h]
 omega
theorem V2 {k:IntKind} {a b:Int} (h:a=b):Value.int k a=Value.int k b:=by rw [h]
theorem eight_any (x:Nat) (w:World) (hx:x<4294967296):Calls Tryz.prog 170 #[.int .u32 (x:Nat)] w fun e w'=>e=.returned (.int .u32 (s8 x:Nat))∧w=w':=by
 go_enter Tryz.func170,Tryz.ntmps170
 go_wp2
 go_loop [0,4] (fun s i=>∃k:Nat,k≤8∧i=.int .i64 k∧s=.int .u32 (it k x:Nat)) (fun _ i=>8-(intOf i).toNat)
 case atStart=>exact⟨0,by omega,rfl,rfl⟩
 case round=>
  obtain⟨k,hk,rfl,rfl⟩:=hrel
  have hy:=it_lt k hx
  have hs:Hid (it (k+1) x=stp (it k x)):=Hz rfl
  have h8:Hid (k=8→s8 x=it k x):=Hz fun h=>by rw [h];rfl
  generalize it k x=y at *
  by_cases hlt:k<8
  ·go_wp2
   all_goals
    go_round
    case rel=>exact⟨k+1,by omega,by go_num,V2 (by rw [hs.o];first|exact qxu hy ‹_› | exact qzo hy ‹_›)⟩
    case measure=>simp [intOf];omega
  ·go_wp2
   go_ret
   exact⟨Qg (by rw [h8.o (by omega)]),rfl⟩
theorem rem_odd {y:Nat} (h:((y:Int)%2==1)=true) (hy:y<4294967296):bits .xor .u32 ((y:Int)/2) 3988292384=(stp y:Nat):=by
 have h:y%2=1:=by simp at h;omega
 rw [xorP hy]
 unfold stp
 rw [if_pos h]
theorem qxv {y:Nat} (h:((y:Int)%2==1)=false):(y:Int)/2=(stp y:Nat):=by
 have h : ¬y%2=1:=by simp at h;omega
 unfold stp
 rw [if_neg h]
 omega
theorem xor32 {x y:Nat} (hx:x<4294967296) (hy:y<4294967296):bits .xor .u32 (x:Int) (y:Int)=((x^^^y:Nat):Int):=u32_xor_nat x y hx hy
theorem feed_any (x c:Nat) (w:World) (hx:x<4294967296) (hc:c<256):Calls Tryz.prog 202 #[.int .u32 (x:Nat),.int .u8 (c:Nat)] w fun e w'=>e=.returned (.int .u32 (fb x c:Nat))∧w=w':=by
 have hz:x^^^c<4294967296:=Nat.xor_lt_two_pow (n:=32) hx (by omega)
 have hxor:=xor32 hx (show c<4294967296 by omega)
 have hf:Hid (fb x c=s8 (x^^^c)):=Hz rfl
 generalize x^^^c=z at *
 go_enter Tryz.func202,Tryz.ntmps202
 go_wp2
 clear hxor
 go_loop [0,5] (fun s i=>∃k:Nat,k≤8∧i=.int .i64 k∧s=.int .u32 (it k z:Nat)) (fun _ i=>8-(intOf i).toNat)
 case atStart=>exact⟨0,by omega,rfl,rfl⟩
 case round=>
  obtain⟨k,hk,rfl,rfl⟩:=hrel
  have hy:=it_lt k hz
  have hs:Hid (it (k+1) z=stp (it k z)):=Hz rfl
  have h8:Hid (k=8→s8 z=it k z):=Hz fun h=>by rw [h];rfl
  generalize it k z=y at *
  by_cases hlt:k<8
  ·go_wp2
   all_goals
    go_round
    case rel=>exact⟨k+1,by omega,by go_num,V2 (by rw [hs.o];first|exact rem_odd ‹_› hy|exact qxv ‹_›)⟩
    case measure=>simp [intOf];omega
  ·go_wp2
   go_ret
   exact⟨Qg (by rw [hf.o,h8.o (by omega)]),rfl⟩
end CrcA
namespace CrcB
open Kit Byt CrcM CrcA
theorem rfd_any (A:Option Addr) (n c:Nat) (xs:List Nat) (x:Nat) (w:World) (hr:Rd w A n c (u8n xs)) (hb:∀c ∈ xs,c<256) (hx:x<4294967296) :
 Calls Tryz.prog 187 #[.int .u32 (x:Nat),.slice A n c] w fun e w'=>e=.returned (.int .u32 (fd x xs:Nat))∧w=w':=by
 obtain rfl:=Rd.nats hr
 have lx:xs.length≤9223372036854775807:=by have:=hr.le;have:=hr.cap;omega
 go_enter Tryz.func187,Tryz.ntmps187
 go_wp2
 go_loop [0,5] (fun s i=>∃k:Nat,k≤xs.length∧i=.int .i64 k∧s=.int .u32 (fd x (xs.take k):Nat)) (fun _ i=>xs.length-(intOf i).toNat)
 case atStart=>exact⟨0,Nat.zero_le _,rfl,by rw [List.take_zero,Xg]⟩
 case round=>
  obtain⟨k,hk,rfl,rfl⟩:=hrel
  have hy:fd x (xs.take k)<4294967296:=fd_lt hx fun c hc=>hb c (List.mem_of_mem_take hc)
  by_cases hlt:k<xs.length
  ·obtain⟨b,o,rfl,hc⟩:=Rd.nat hr hlt
   have hs:Hid (fd x (xs.take (k+1))=fb (fd x (xs.take k)) xs[k]):=Hz (by rw [Wu hlt,qj2])
   have hbk:=hb xs[k] (Me_ hlt)
   generalize fd x (xs.take k)=y at *
   go_wp2_with (go_at_call 202;refine (feed_any y xs[k] _ hy hbk).mono ?_;rintro e w' ⟨rfl,rfl⟩)
   go_round
   case rel=>exact⟨k+1,by omega,by go_num,by rw [hs.o]⟩
   case measure=>simp [intOf];omega
  ·have he:Hid (xs.take k=xs):=Hz (Mt (by omega))
   go_wp2
   go_ret
   exact⟨Qg (by rw [he.o]),rfl⟩
theorem qxw (A:Option Addr) (n c:Nat) (xs:List Nat) (w:World) (hr:Rd w A n c (u8n xs)) (hb:∀c ∈ xs,c<256) :
 Calls Tryz.prog 158 #[.slice A n c] w fun e w'=>e=.returned (.int .u32 (sm xs:Nat))∧w=w':=by
 have hs:Hid (sm xs=4294967295-fd 4294967295 xs):=Hz rfl
 have hl:=fd_lt (x:=4294967295) (by decide) hb
 have hF:=rfd_any A n c xs 4294967295 w hr hb (by decide)
 generalize fd 4294967295 xs=y at *
 have HF:=Hz hF
 clear hF
 go_enter Tryz.func158,Tryz.ntmps158
 go_wp2_with (go_at_call 187;refine (HF.o).mono ?_;rintro e w' ⟨rfl,rfl⟩)
 go_ret
 exact⟨Qg (by rw [hs.o];omega),rfl⟩
end CrcB
namespace CrcC
open CrcM CrcA
def row (k:Nat):List Value:=(List.range 256).map fun i:Nat=>Value.int .u32 ((if i<k then s8 i else 0:Nat):Int)
def Tb (w:World) (g k:Nat):Prop:=w.heap[g]?=some (.cells (row k).toArray 242 (0,0))
theorem row_set {k:Nat} (_h:k<256):(row k).set k (.int .u32 (s8 k:Nat))=row (k+1):=by
 apply List.ext_getElem
 ·simp [row]
 ·intro i h1 h2
  simp only [row,List.getElem_set,List.getElem_map,List.getElem_range]
  by_cases e:k=i
  ·subst e
   simp
  ·rw [if_neg e]
   congr 2
   by_cases h3:i<k
   ·rw [if_pos h3,if_pos (by omega)]
   ·rw [if_neg h3,if_neg (by omega)]
theorem Tb.cell {w:World} {g k i:Nat} (h:Tb w g k) (hi:i<256):w.cell? ⟨g,i,none⟩=some (.int .u32 ((if i<k then s8 i else 0:Nat):Int)):=by
 rw [cell_of_row w g i _ _ _ h]
 simp [row,hi]
theorem Tb.frozen {w:World} {g k:Nat} (h:Tb w g k) (i:Nat):w.frozen? ⟨g,i,none⟩=false:=frozen_of_row w g i _ _ h
theorem Tb.set {w:World} {g k:Nat} (h:Tb w g k) (hk:k<256):Tb (w.setCell ⟨g,k,none⟩ (.int .u32 (s8 k:Nat))) g (k+1):=by
 unfold Tb
 rw [heap_setCell_same w g k _ _ _ h,List.setIfInBounds_toArray,row_set hk]
theorem qq8 (w:World):(zeroValue 242).run Tryz.prog w=.ok (.agg (row 0).toArray) w:=by kernel_rfl
theorem Wq (w:World):Calls Tryz.prog 139 #[] w fun e w'=>e=.returned (.pointer (some ⟨w.heap.size,0,none⟩))∧Tb w' w.heap.size 256∧Bw w w'∧w'.heap.size=w.heap.size+1:=by
 have hz:=qq8
 have H0:Hid (∀Z:Array Value,Z=(row 0).toArray→Tb (w.alloc (.cells Z 242)) w.heap.size 0):=Hz fun Z h=>by rw [h];exact heap_alloc_new w _
 have hb0:Bw w (w.alloc (.cells (row 0).toArray 242)):=(Mb _ _).alloc (Mr _) _
 generalize hZ:(row 0).toArray=Z at *
 have H0:=Hz (H0.o Z rfl)
 go_enter Tryz.func139,Tryz.ntmps139
 go_wp2
 clear hz hZ
 go_loopw [4,2] (fun i _ wr=>∃k:Nat,k≤256∧i=.int .i64 k∧Hid (Tb wr w.heap.size k)∧Bw w wr∧Hid (wr.heap.size=w.heap.size+1)) (fun i _ _=>256-(intOf i).toNat)
 case atStart=>exact⟨0,by omega,rfl,H0,hb0,Hz (by simp)⟩
 case round=>
  obtain⟨k,hk,rfl,hT,hb,hs⟩:=hrel
  clear hb0 H0
  by_cases hlt:k<256
  ·have hc:=Tb.cell hT.o hlt
   have hf:=Tb.frozen hT.o k
   go_wp2
   have h32:IntKind.u32.wrap (k:Int)=(k:Int):=by rw [IntKind.wrap_u32];omega
   go_still_tail 7,(by kernel_rfl)
   refine wpStill_step (fun K hK=>?_)
   go_simp
   refine⟨_,(eight_any k _ (by omega)).mono (fun e w' h=>⟨h.1,h.2.symm⟩),hK _ ?_⟩
   clear hK K
   repeat still_step
   refine wpStill_nil ?_
   change wpList _ _ _ _ _ wr.drew
   have hc':=hc
   have hf':=hf
   have hT':Hid (Tb (wr.drew.setCell ⟨w.heap.size,k,none⟩ (.int .u32 (s8 k:Nat))) w.heap.size (k+1)):=Hz (Tb.set (w:=wr.drew) hT.o hlt)
   have hb':Hid (Bw w (wr.drew.setCell ⟨w.heap.size,k,none⟩ (.int .u32 (s8 k:Nat)))):=Hz ((below_drewN hb 1).setCell (by simp) _)
   generalize s8 k=z at *
   clear hc hf
   go_wp2
   go_roundw
   case rel=>exact⟨k+1,by omega,by go_num,hT',hb'.o,Hz (by simpa using hs.o)⟩
   case measure=>simp [intOf];omega
  ·go_wp2
   go_ret
   obtain rfl:k=256:=by omega
   exact⟨rfl,hT.o,hb,hs.o⟩
end CrcC
namespace CrcD
open Kit Byt CrcM CrcA CrcC
theorem Tb.at_ {w:World} {g i:Nat} (h:Tb w g 256) (hi:i<256):w.cell? ⟨g,i,none⟩=some (.int .u32 (s8 i:Nat)):=by
 rw [Tb.cell h hi,if_pos hi]
theorem Tb.below {w w':World} {g k:Nat} (h:Tb w g k) (hb:Bw w w'):Tb w' g k:=by
 have:=hb.block g (lt_of_block h)
 unfold Tb at *
 rw [this,h]
theorem low8 (x c:Nat) (hc:c<256):bits .xor .u8 ((x:Int)%256) (c:Int)=((x%256^^^c:Nat):Int):=by
 have:=u8_xor_nat (x%256) c (by omega) hc
 rw [←this]
 simp
theorem next_any (g x c:Nat) (w:World) (hT:Tb w g 256) (hx:x<4294967296) (hc:c<256):Calls Tryz.prog 209 #[.pointer (some ⟨g,0,none⟩),.int .u32 (x:Nat),.int .u8 (c:Nat)] w fun e w'=>e=.returned (.int .u32 (fb x c:Nat))∧w=w':=by
 have hf:Hid (fb x c=s8 (x%256^^^c)^^^x/256):=Hz (fb_table hc)
 have hi:(x%256^^^c)<256:=Nat.xor_lt_two_pow (n:=8) (by omega) hc
 have hl:=low8 x c hc
 have hcell:=Tb.at_ hT hi
 have hs:=s8_lt (x:=x%256^^^c) (by omega)
 have hxor:=xor32 (x:=s8 (x%256^^^c)) (y:=x/256) hs (by omega)
 have hd:((x/256:Nat):Int)=(x:Int)/256:=by simp
 rw [hd] at hxor
 clear hd
 generalize s8 (x%256^^^c)=y at *
 generalize x%256^^^c=i at *
 go_enter Tryz.func209,Tryz.ntmps209
 go_wp2
 go_ret
 exact⟨Qg (by rw [hf.o]),rfl⟩
theorem through_any (g:Nat) (A:Option Addr) (n c:Nat) (xs:List Nat) (x:Nat) (w:World) (hT:Tb w g 256) (hr:Rd w A n c (u8n xs)) (hb:∀c ∈ xs,c<256) (hx:x<4294967296) :
 Calls Tryz.prog 208 #[.func (.func 209) #[.pointer (some ⟨g,0,none⟩)] #[],.int .u32 (x:Nat),.slice A n c] w fun e w'=>e=.returned (.int .u32 (fd x xs:Nat))∧w=w':=by
 obtain rfl:=Rd.nats hr
 have lx:xs.length≤9223372036854775807:=by have:=hr.le;have:=hr.cap;omega
 have HT:=Hz hT
 clear hT
 go_enter Tryz.func208,Tryz.ntmps208
 go_wp2
 go_loop [1,11,8] (fun s i _=>∃k:Nat,k≤xs.length∧i=.int .i64 k∧s=.int .u32 (fd x (xs.take k):Nat)) (fun _ i _=>xs.length-(intOf i).toNat)
 case atStart=>exact⟨0,Nat.zero_le _,rfl,by rw [List.take_zero,Xg]⟩
 case round=>
  obtain⟨k,hk,rfl,rfl⟩:=hrel
  have hy:fd x (xs.take k)<4294967296:=fd_lt hx fun c hc=>hb c (List.mem_of_mem_take hc)
  by_cases hlt:k<xs.length
  ·obtain⟨b,o,rfl,hc⟩:=Rd.nat hr hlt
   have hs:Hid (fd x (xs.take (k+1))=fb (fd x (xs.take k)) xs[k]):=Hz (by rw [Wu hlt,qj2])
   have hbk:=hb xs[k] (Me_ hlt)
   generalize fd x (xs.take k)=y at *
   go_wp2_with (go_at_call 209;refine (next_any g y xs[k] _ HT.o hy hbk).mono ?_;rintro e w' ⟨rfl,rfl⟩)
   go_round
   case rel=>exact⟨k+1,by omega,by go_num,by rw [hs.o]⟩
   case measure=>simp [intOf];omega
  ·have he:Hid (xs.take k=xs):=Hz (Mt (by omega))
   go_wp2
   go_ret
   exact⟨Qg (by rw [he.o]),rfl⟩
theorem Y5 (fn:Fn) (first cap:Array Value) (w:World):(Instr.makeFunc fn first cap).run Tryz.prog w=.ok (.func fn first cap) w:=rfl
theorem feed_there (g:Nat) (A:Option Addr) (n c:Nat) (xs:List Nat) (x:Nat) (w:World) (hT:Tb w g 256) (hr:Rd w A n c (u8n xs)) (hb:∀c ∈ xs,c<256) (hx:x<4294967296) :
 Calls Tryz.prog 192 #[.pointer (some ⟨g,0,none⟩),.int .u32 (x:Nat),.slice A n c] w fun e w'=>e=.returned (.int .u32 (fd x xs:Nat))∧w=w':=by
 have HT:=Hz hT
 clear hT
 have hmf:=Y5
 go_enter Tryz.func192,Tryz.ntmps192
 go_wp2_with (go_at_call 208;refine (through_any g A n c xs x _ HT.o hr hb hx).mono ?_;rintro e w' ⟨rfl,rfl⟩)
 go_ret
 exact⟨rfl,rfl⟩
theorem begin_any (w:World):Calls Tryz.prog 193 #[] w fun e w'=>e=.returned (.int .u32 4294967295)∧w=w':=by
 go_enter Tryz.func193,Tryz.ntmps193
 go_wp2
 go_ret
 exact⟨rfl,rfl⟩
theorem not32 (x:Nat) (hx:x<4294967296):4294967295^^^x=4294967295-x:=by
 have h:(BitVec.allOnes 32^^^BitVec.ofNat 32 x) = ~~~ BitVec.ofNat 32 x:=by rw [BitVec.xor_comm,BitVec.xor_allOnes]
 have h2:=congrArg BitVec.toNat h
 rw [BitVec.toNat_xor,BitVec.toNat_not,BitVec.toNat_allOnes,BitVec.toNat_ofNat,Nat.mod_eq_of_lt (by omega)] at h2
 exact h2
theorem max32:IntKind.u32.max=4294967295:=by kernel_rfl
theorem not_any {x:Nat} (hx:x<4294967296):bits .xor .u32 IntKind.u32.max (x:Int)=((4294967295-x:Nat):Int):=by
 rw [max32]
 have h:=xor32 (x:=4294967295) (y:=x) (by decide) hx
 rw [not32 x hx] at h
 exact h
theorem end_any (x:Nat) (w:World) (hx:x<4294967296):Calls Tryz.prog 191 #[.int .u32 (x:Nat)] w fun e w'=>e=.returned (.int .u32 (4294967295-x:Nat))∧w=w':=by
 go_enter Tryz.func191,Tryz.ntmps191
 go_wp2
 all_goals first
  | (go_ret;exact⟨Qg (not_any hx),rfl⟩)
  | (exfalso;have h:IntKind.u32.signed=true:=by assumption
     cases h)
theorem T8 (g:Nat) (A:Option Addr) (n c:Nat) (xs:List Nat) (w:World) (hT:Tb w g 256) (hr:Rd w A n c (u8n xs)) (hb:∀c ∈ xs,c<256) :
 Calls Tryz.prog 171 #[.pointer (some ⟨g,0,none⟩),.slice A n c] w fun e w'=>e=.returned (.int .u32 (sm xs:Nat))∧w=w':=by
 have hs:Hid (sm xs=4294967295-fd 4294967295 xs):=Hz rfl
 have hl:=fd_lt (x:=4294967295) (by decide) hb
 have HF:=Hz (feed_there g A n c xs 4294967295 w hT hr hb (by decide))
 clear hT
 generalize fd 4294967295 xs=y at *
 go_enter Tryz.func171,Tryz.ntmps171
 go_wp2_with (first
  | (go_at_call 193;refine (begin_any _).mono ?_;rintro e w' ⟨rfl,rfl⟩)
  | (go_at_call 192;refine (HF.o).mono ?_;rintro e w' ⟨rfl,rfl⟩)
  | (go_at_call 191;refine (end_any y _ hl).mono ?_;rintro e w' ⟨rfl,rfl⟩))
 go_ret
 exact⟨Qg (by rw [hs.o]),rfl⟩
theorem Rd.cells (w:World) (xs:List Nat) (e:TypeId) {m:Nat×Nat} {n:Nat} (hn:xs.length=n) (h63:n≤9223372036854775807):Rd (w.alloc (.cells (u8n xs).toArray e m)) (some ⟨w.heap.size,0,none⟩) n n (u8n xs):=by
 refine⟨by rw [Qv,hn],by omega,by omega,fun _=>⟨_,_,rfl,by simp,fun j u hu=>?_⟩⟩
 rw [Nat.zero_add,World.cell?_alloc_mark]
 simpa using hu
end CrcD
namespace CrcE
open Byt CrcM
theorem cut_at {xs:List Nat} {k:Nat} (h:k<xs.length):xs=xs.take k++xs[k] :: xs.drop (k+1):=by
 rw [List.getElem_cons_drop h,List.take_append_drop]
theorem set_at {xs:List Nat} {k:Nat} (h:k<xs.length) (y:Nat):xs.set k y=xs.take k++y :: xs.drop (k+1):=by
 rw [List.set_eq_take_append_cons_drop,if_pos h]
theorem turned {xs:List Nat} {k y:Nat} (h:k<xs.length) (hb:∀c ∈ xs,c<256) (hy:y<256) (hne:xs[k]≠y):((sm xs:Nat):Int)≠((sm (xs.set k y):Nat):Int):=by
 rw [set_at h]
 conv=>lhs;rw [cut_at h]
 have hne':=qj3 (l:=xs.take k) (m:=xs.drop (k+1)) (fun c hc=>hb c (List.mem_of_mem_take hc)) (fun c hc=>hb c (List.mem_of_mem_drop hc)) (hb _ (Me_ h)) hy hne
 omega
theorem Jh (xs:List Nat) (k y:Nat):(u8n xs).set k (.int .u8 (y:Int))=u8n (xs.set k y):=by simp [u8n,List.map_set]
theorem Zz {w:World} {base n c:Nat} {e:TypeId} {A:Option Addr} {xs:List Value} (h:w.ownsRow base e 1 (.slice A n c) n xs) (hn:0<n):∃g,A=some ⟨g,0,none⟩∧base≤g∧g<w.heap.size:=by
 rcases h.2 with⟨hv,h0⟩|⟨g,cap',cur,hv,hb,hh,_⟩
 ·omega
 ·simp only [Value.slice.injEq] at hv
  exact⟨g,hv.1,hb,lt_of_block hh⟩
theorem qxx {w:World} {base n c g k:Nat} {e:TypeId} {xs:List Nat} (h:w.ownsRow base e 1 (.slice (some ⟨g,0,none⟩) n c) n (u8n xs)) (hk:k<xs.length):w.cell? ⟨g,k,none⟩=some (.int .u8 (xs[k]:Nat)):=by
 have hl:xs.length=n:=by have:=h.1;rw [Qv] at this;omega
 rw [h.cellAt k (by omega)]
 simp [u8n,hk]
theorem xor8 {x y:Nat} (hx:x<256) (hy:y<256):bits .xor .u8 (x:Int) (y:Int)=((x^^^y:Nat):Int):=u8_xor_nat x y hx hy
end CrcE
namespace NumE
open Kit NumA NumB
def txt (ts:List Int):List Int:=putb (min ts.length 65535:Nat) 2++ts.take 65535
theorem Vl (xs:List Int) (k:Nat):(u8s xs).take k=u8s (xs.take k):=by simp [u8s]
theorem Uz (xs ys:List Int):u8s xs++u8s ys=u8s (xs++ys):=by simp [u8s]
theorem Ut:wd 2=2:=rfl
theorem Z7 {w w':World} {xs ys:List Int} {A:Option Addr} {n c:Nat} (h:w'.ownsRow w.heap.size 5 1 (.slice A n c) n (u8s xs)) (hb:Bw w w') (he:xs=ys):Fresh w ys (.returned (.slice A n c)) w':=by
 subst he
 exact Fresh.of h hb
theorem Gu (A:Option Addr) (n c:Nat) (xs:List Int) (B:Option Addr) (m d:Nat) (ts:List Int) (w:World) (hx:Rd w A n c (u8s xs)) (ht:Rd w B m d (u8s ts)) (hl:n≤100000000000000) :
 Calls Tryz.prog 94 #[.slice A n c,.slice B m d] w fun e w'=>Fresh w (xs++txt ts) e w':=by
 obtain⟨i0,hi0,hz0,hz1,hz2⟩:=info_parts info8
 have t1:=ht.le
 have t2:=ht.cap
 have HL:Hid (ts.length=m):=Rd.bytes ht
 have HX:Hid (xs.length=n):=Rd.bytes hx
 by_cases hs:m≤65535
 ·go_enter Tryz.func94,Tryz.ntmps94
  go_wp2_with (first
   | (go_at_call 92;refine (put_any A n c xs m 2 _ hx (by omega)).mono ?_;rintro e w1 ⟨A1,n1,c1,hn1,rfl,hown1,hb1⟩;have hn2:n1≤n+2:=by have:=hn1.o;rw [this];simp [Jw,Ut,HX.o])
   | (at_builtin;refine Qu _ rfl (.tmp 13) (.tmp 14) _ rfl w.heap.size 5 i0 _ 1 Tryz.underlying31 hi0 hz0 hz1 hz2 rfl _ n1 (u8s (xs++putb m 2)) rfl hown1 B m d (u8s ts) rfl (ht.below hb1) (u8s_one _) (by omega) (by omega) hb1.size ?_;intro A2 n2 c2 w2 hn3 hown2 hg2 hat2))
  go_ret
  refine Z7 (xs:=xs++putb m 2++ts) (by rw [←Uz];exact hown2) (below_add hb1 hown1 (Mr _) hg2) ?_
  obtain rfl:=HL.o
  rw [txt,Mt hs,Nat.min_eq_left hs,List.append_assoc]
 ·go_enter Tryz.func94,Tryz.ntmps94
  go_wp2_with (first
   | (go_at_call 92;refine (put_any A n c xs 65535 2 _ hx (by omega)).mono ?_;rintro e w1 ⟨A1,n1,c1,hn1,rfl,hown1,hb1⟩;have hn2:n1≤n+2:=by have:=hn1.o;rw [this];simp [Jw,Ut,HX.o])
   | (at_builtin;refine Qu _ rfl (.tmp 13) (.tmp 14) _ rfl w.heap.size 5 i0 _ 1 Tryz.underlying31 hi0 hz0 hz1 hz2 rfl _ n1 (u8s (xs++putb 65535 2)) rfl hown1 B 65535 d ((u8s ts).take 65535) rfl ((ht.take (by omega)).below hb1) (by rw [Vl];exact u8s_one _) (by omega) (by omega) hb1.size ?_;intro A2 n2 c2 w2 hn3 hown2 hg2 hat2))
  go_ret
  refine Z7 (xs:=xs++putb 65535 2++ts.take 65535) (by rw [←Uz,←Vl];exact hown2) (below_add hb1 hown1 (Mr _) hg2) ?_
  obtain rfl:=HL.o
  rw [txt,Nat.min_eq_right (by omega),List.append_assoc]
  rfl
theorem be_zero (k:Nat):be k 0=List.replicate k 0:=by
 apply List.ext_getElem
 ·simp [Wy]
 ·intro i h1 h2
  simp [be]
def Part (k:Nat) (q:Int) (m:Nat) (cs:List Int):Prop:=cs.length=k∧∀j,(h:j<cs.length)→cs[j]=if m≤j then q/2 ^ (8*(k-1-j))%256 else 0
theorem r_next {k m r:Nat} {n:Int} (hm:m≤k) (h0:1≤m) (hr:(r:Int)=n/2 ^ (8*(k-m))):((r/256:Nat):Int)=n/2 ^ (8*(k-(m-1))):=by
 have e:8*(k-(m-1))=8*(k-m)+8:=by omega
 rw [e,Int.pow_add,←Int.ediv_ediv_of_nonneg (by exact Int.le_of_lt (Int.pow_pos (by omega))),←hr]
 simp
theorem Part.next {k m r:Nat} {n:Int} {cs:List Int} (h:Part k n m cs) (h0:1≤m) (hm:m≤k) (hr:(r:Int)=n/2 ^ (8*(k-m))):Part k n (m-1) (cs.set (m-1) ((r:Int)%256)):=by
 refine⟨by rw [List.length_set];exact h.1,fun j hj=>?_⟩
 rw [List.getElem_set]
 by_cases e:m-1=j
 ·subst e
  rw [if_pos rfl,if_pos (Mr _),hr]
  congr 3
  omega
 ·rw [if_neg e,h.2 j (by simpa using hj)]
  by_cases h1:m≤j
  ·rw [if_pos h1,if_pos (by omega)]
  ·rw [if_neg h1,if_neg (by omega)]
theorem Part.all {k:Nat} {n:Int} {cs:List Int} (h:Part k n 0 cs) (hn:0≤n):cs=be k n.toNat:=by
 apply List.ext_getElem
 ·rw [h.1,Wy]
 ·intro i h1 h2
  rw [h.2 i h1,if_pos (Nat.zero_le _)]
  simp only [be,List.getElem_map,List.getElem_range]
  rw [Int.natCast_emod,Int.natCast_ediv,ipow,Int.toNat_of_nonneg hn]
  rfl
theorem Part.done {k:Nat} {n:Int} {cs:List Int} (h:Part k n 0 cs) (hn:0≤n) (hr:((0:Nat):Int)=n/2 ^ (8*(k-0))):cs=be k (cl k n):=by
 rw [Part.all h hn]
 congr 1
 unfold cl
 have p:=V9 k
 rw [Nat.sub_zero,←ipow] at hr
 have:n<((2 ^ (8*k):Nat):Int):=by
  have:=Int.lt_mul_of_ediv_lt (a:=n) (b:=1) (c:=((2 ^ (8*k):Nat):Int)) (by omega) (by omega)
  omega
 omega
def Top (k j:Nat) (cs:List Int):Prop:=cs.length=k∧∀i,(h:i<cs.length)→i<j→cs[i]=255
theorem Top.next {k j:Nat} {cs:List Int} (h:Top k j cs):Top k (j+1) (cs.set j 255):=by
 refine⟨by rw [List.length_set];exact h.1,fun i hi hij=>?_⟩
 rw [List.getElem_set]
 by_cases e:j=i
 ·rw [if_pos e]
 ·rw [if_neg e]
  exact h.2 i (by simpa using hi) (by omega)
theorem be_top {k:Nat} (h:k≤6):be k (2 ^ (8*k)-1)=List.replicate k 255:=by
 match k,h with
 | 0,_=>rfl
 | 1,_=>rfl
 | 2,_=>rfl
 | 3,_=>rfl
 | 4,_=>rfl
 | 5,_=>rfl
 | 6,_=>rfl
theorem Top.done {k r:Nat} {n:Int} {cs:List Int} (h:Top k k cs) (hk:k≤6) (h0:0<r) (hr:(r:Int)=n/2 ^ (8*(k-0))):cs=be k (cl k n):=by
 have p:=V9 k
 have e:cl k n=2 ^ (8*k)-1:=by
  unfold cl
  rw [Nat.sub_zero,←ipow] at hr
  have:((2 ^ (8*k):Nat):Int)≤n:=by
   rcases Int.lt_or_le n ((2 ^ (8*k):Nat):Int) with h1|h1
   ·have h2:n/((2 ^ (8*k):Nat):Int)<1:=Int.ediv_lt_of_lt_mul (by omega) (by omega)
    omega
   ·exact h1
  omega
 rw [e,be_top hk]
 apply List.ext_getElem
 ·simpa using h.1
 ·intro i h1 h2
  rw [h.2 i h1 (by have:=h.1;omega)]
  simp
theorem rput_any (n x:Int) (w:World) (hq2:n≤9223372036854775807) :
 Calls Tryz.prog 157 #[.int .i64 n,.int .i64 x] w fun e w'=>Fresh w (putb n x) e w':=by
 obtain⟨i0,hi0,hz0,hz1,hz2⟩:=info_parts info8
 have w1:=wd_pos x
 have w2:=wd_le x
 by_cases hn:n<0
 ·go_enter Tryz.func157,Tryz.ntmps157
  go_wp2_with (first
   | (go_at_call 186;refine (Width_any _ _).mono ?_;rintro e w' ⟨rfl,rfl⟩)
   | (at_make;refine Qx _ rfl _ _ _ rfl 5 i0 _ 1 Tryz.underlying31 hi0 hz0 hz1 hz2 rfl _ _ _ _ (wd x) (wd x) rfl rfl (by omega) (by omega) (by omega) (by omega) (by omega) ?_;intro w1' H1 hb1 hs1))
  go_ret
  refine Z7 (xs:=List.replicate (wd x) 0) ?_ hb1 ?_
  ·have h:=Q0 (base:=w.heap.size) (n:=wd x) H1.o (Mr _) (by simp) (by simp;omega)
   rw [List.length_replicate] at h
   simpa using h
  ·have:cl (wd x) n=0:=by unfold cl;omega
   rw [putb,this,be_zero]
 ·go_enter Tryz.func157,Tryz.ntmps157
  go_wp2_with (first
   | (go_at_call 186;refine (Width_any _ _).mono ?_;rintro e w' ⟨rfl,rfl⟩)
   | (at_make;refine Qx _ rfl _ _ _ rfl 5 i0 _ 1 Tryz.underlying31 hi0 hz0 hz1 hz2 rfl _ _ _ _ (wd x) (wd x) rfl rfl (by omega) (by omega) (by omega) (by omega) (by omega) ?_;intro w1' H1 hb1 hs1))
  have hq:0≤n:=by omega
  have B0:Blk8 w1' w.heap.size (List.replicate (wd x) 0):=by
   have h:=H1.o
   unfold Blk8
   rw [h]
   simp [u8s]
  have P0:Part (wd x) n (wd x) (List.replicate (wd x) 0):=by
   refine⟨by simp,fun j h=>?_⟩
   simp at h
   rw [if_neg (by omega)]
   simp
  clear H1 hs1
  go_loopw [0,6] (fun q i wr=>∃m r:Nat,∃cs,m≤wd x∧i=.int .i64 ((m:Int)-1)∧q=.int .i64 r∧Hid ((r:Int)=n/2 ^ (8*(wd x-m)))∧r≤9223372036854775807∧Hid (Blk8 wr w.heap.size cs)∧Part (wd x) n m cs∧Bw w wr)
   (fun _ i _=>((intOf i)+1).toNat)
  case atStart=>exact⟨wd x,n.toNat,_,Mr _,rfl,V2 (by omega),(show _=_ by simp;omega),by omega,B0,P0,hb1⟩
  case round=>
   obtain⟨m,r,cs,hm,rfl,rfl,hr,hr2,hB,hP,hb⟩:=hrel
   by_cases h0:1≤m
   ·have hlen:cs.length=wd x:=hP.1
    have hc:=Blk8.cell hB.o (i:=m-1) (by omega)
    have hf:=Blk8.frozen hB.o (m-1)
    go_wp2
    go_roundw
    case rel=>
     refine⟨m-1,r/256,cs.set (m-1) ((r:Int)%256),by omega,V2 (by omega),V2 (by omega),?_,by omega,Blk8.set hB.o _ _,?_,?_⟩
     ·exact r_next (by omega) h0 hr.o
     ·exact Part.next hP h0 hm hr.o
     ·exact hb.setCell (Mr _) _
    case measure=>simp [intOf];omega
   ·obtain rfl:m=0:=by omega
    have hlen:cs.length=wd x:=hP.1
    by_cases hr0:0<r
    ·go_wp2_with fail
     obtain⟨wo,hwo⟩:∃wo:World,wo=wr:=⟨_,rfl⟩
     obtain rfl:=hwo
     go_loopw [7] (fun i wr=>∃j:Nat,∃cs,j≤wd x∧i=.int .i64 j∧Hid (Blk8 wr w.heap.size cs)∧Top (wd x) j cs∧Bw w wr)
      (fun i _=>wd x-(intOf i).toNat)
     case atStart=>exact⟨0,cs,Nat.zero_le _,rfl,hB,⟨hlen,fun i hi h=>absurd h (by omega)⟩,hb⟩
     case round=>
      obtain⟨j,ds,hj,rfl,hB2,hT,hb2⟩:=hrel
      by_cases hlt:j<wd x
      ·have hl2:ds.length=wd x:=hT.1
       have hc:=Blk8.cell hB2.o (i:=j) (by omega)
       have hf:=Blk8.frozen hB2.o j
       go_wp2
       go_roundw
       case rel=>
        exact⟨j+1,ds.set j 255,by omega,by go_num,Blk8.set hB2.o _ _,Top.next hT,hb2.setCell (Mr _) _⟩
       case measure=>simp [intOf];omega
      ·obtain rfl:j=wd x:=by omega
       go_wp2
       go_ret
       exact Z7 (xs:=ds) (Blk8.own hB2.o (Mr _) (by have:=hT.1;omega) hT.1) hb2 (Top.done hT w2 hr0 hr.o)
    ·go_wp2_with fail
     go_ret
     refine Z7 (xs:=cs) (Blk8.own hB.o (Mr _) (by omega) hlen) hb ?_
     obtain rfl:r=0:=by omega
     exact Part.done hP hq hr.o
end NumE
namespace TabR
open Kit NumA NumB
theorem Vl (xs:List Int) (k:Nat):(u8s xs).take k=u8s (xs.take k):=by simp [u8s]
theorem stay_any (v:Value) (x:Int) (w:World):Calls Tryz.prog 213 #[v,.int .i64 x] w fun e w'=>e=.returned (.slice none 0 0)∧w=w':=by
 go_enter Tryz.func213,Tryz.ntmps213
 go_wp2
 go_ret
 exact⟨rfl,rfl⟩
theorem eqnil (w:World) (a:Option Addr) (n c n' c':Nat):(binOp .eql 31 (.slice a n c) (.slice none n' c')).run Tryz.prog w=.ok (.bool a.isNone) w:=
 Lib.run_eql_slice_nil w _ _ a n c n' c' Tryz.underlying31
theorem Ut:wd 2=2:=rfl
def St (w:World) (b:Nat) (xs:List Int) (e:Int):Prop:=
 ∃A n c,w.heap[b]?=some (.cells #[.slice A n c,.int .i64 e] 257 (0,0))∧Rd w A n c (u8s xs)∧(A=none∨∃g o,A=some ⟨g,o,none⟩∧g<b)
theorem two0 {w:World} {b:Nat} {u v:Value} {t:TypeId} (h:w.heap[b]?=some (.cells #[u,v] t (0,0))):w.cell? ⟨b,0,none⟩=some u:=by rw [cell_of_row _ _ _ _ _ _ h];rfl
theorem two1 {w:World} {b:Nat} {u v:Value} {t:TypeId} (h:w.heap[b]?=some (.cells #[u,v] t (0,0))):w.cell? ⟨b,1,none⟩=some v:=by rw [cell_of_row _ _ _ _ _ _ h];rfl
theorem ended_no (b:Nat) (A:Option Addr) (n c:Nat) (w:World) (h:w.heap[b]?=some (.cells #[.slice A n c,.int .i64 0] 257 (0,0))) :
 Calls Tryz.prog 212 #[.pointer (some ⟨b,0,none⟩)] w fun e w'=>e=.returned (.bool false)∧w=w':=by
 have h1:=two1 h
 clear h
 go_enter Tryz.func212,Tryz.ntmps212
 go_wp2
 go_ret
 exact⟨rfl,rfl⟩
theorem ended_yes (b:Nat) (A:Option Addr) (n c:Nat) (e:Int) (w:World) (h:w.heap[b]?=some (.cells #[.slice A n c,.int .i64 e] 257 (0,0))) (he:(e != 0)=true) :
 Calls Tryz.prog 212 #[.pointer (some ⟨b,0,none⟩)] w fun e w'=>e=.returned (.bool true)∧w=w':=by
 have h1:=two1 h
 clear h
 go_enter Tryz.func212,Tryz.ntmps212
 go_wp2
 go_ret
 exact⟨rfl,rfl⟩
theorem next_no (b:Nat) (A:Option Addr) (n c:Nat) (w:World) (h:w.heap[b]?=some (.cells #[.slice A n c,.int .i64 0] 257 (0,0))) :
 Calls Tryz.prog 195 #[.pointer (some ⟨b,0,none⟩)] w fun e w'=>e=.returned (.func (.func 214) #[.pointer (some ⟨b,0,none⟩)] #[])∧w=w':=by
 have H:Hid (w.heap[b]?=some (.cells #[.slice A n c,.int .i64 0] 257 (0,0))):=h
 clear h
 go_enter Tryz.func195,Tryz.ntmps195
 go_wp2_with (go_at_call 212;refine (ended_no _ _ _ _ _ H.o).mono ?_;rintro e w' ⟨rfl,rfl⟩)
 go_ret
 exact⟨rfl,rfl⟩
theorem next_yes (b:Nat) (A:Option Addr) (n c:Nat) (e:Int) (w:World) (h:w.heap[b]?=some (.cells #[.slice A n c,.int .i64 e] 257 (0,0))) (he:(e != 0)=true) :
 Calls Tryz.prog 195 #[.pointer (some ⟨b,0,none⟩)] w fun e w'=>e=.returned (.func (.func 213) #[.pointer (some ⟨b,0,none⟩)] #[])∧w=w':=by
 have H:Hid (w.heap[b]?=some (.cells #[.slice A n c,.int .i64 e] 257 (0,0))):=h
 clear h
 go_enter Tryz.func195,Tryz.ntmps195
 go_wp2_with (go_at_call 212;refine (ended_yes _ _ _ _ _ _ H.o he).mono ?_;rintro e w' ⟨rfl,rfl⟩)
 go_ret
 exact⟨rfl,rfl⟩
theorem fail_no (b:Nat) (A:Option Addr) (n c:Nat) (x:Int) (w:World) (h:w.heap[b]?=some (.cells #[.slice A n c,.int .i64 0] 257 (0,0))) :
 Calls Tryz.prog 196 #[.pointer (some ⟨b,0,none⟩),.int .i64 x] w fun e w'=>e=.returned (.tuple #[])∧w.setCell ⟨b,1,none⟩ (.int .i64 x)=w':=by
 have H:Hid (w.heap[b]?=some (.cells #[.slice A n c,.int .i64 0] 257 (0,0))):=h
 have h1:=two1 h
 have hf:=frozen_of_row _ _ 1 _ _ h
 clear h
 go_enter Tryz.func196,Tryz.ntmps196
 go_wp2_with (go_at_call 212;refine (ended_no _ _ _ _ _ H.o).mono ?_;rintro e w' ⟨rfl,rfl⟩)
 go_end0
 exact⟨rfl,rfl⟩
theorem did_set (w:World) (b i:Nat) (v:Value):w.grownBy (w.setCell ⟨b,i,none⟩ v) (some b):=
 ⟨(Mb 0 w |>.setCell (p:=⟨b,i,none⟩) (Nat.zero_le _) v).os,(Mb 0 w |>.setCell (p:=⟨b,i,none⟩) (Nat.zero_le _) v).tape,(Mb 0 w |>.setCell (p:=⟨b,i,none⟩) (Nat.zero_le _) v).output,
  (Mb 0 w |>.setCell (p:=⟨b,i,none⟩) (Nat.zero_le _) v).size,fun k _ hk=>heap_setCell_other w _ k v (fun e=>hk (by rw [e]))⟩
theorem Vv {w w1 w2:World} {row:Option Nat} (h:w.grownBy w1 row) (h':w1.grownBy w2 row):w.grownBy w2 row:=
 ⟨h'.os.trans h.os,h'.tape.trans h.tape,h'.output.trans h.output,Ml h.size h'.size,fun k hk hn=>(h'.block k (Mw hk h.size) hn).trans (h.block k hk hn)⟩
theorem did_below {w w':World} (h:Bw w w') (row:Option Nat):w.grownBy w' row:=⟨h.os,h.tape,h.output,h.size,fun k hk _=>h.block k hk⟩
theorem Rd.far {w:World} {A:Option Addr} {n c b i:Nat} {xs:List Value} (h:Rd w A n c xs) (hA:A=none∨∃g o,A=some ⟨g,o,none⟩∧g<b) (v:Value):Rd (w.setCell ⟨b,i,none⟩ v) A n c xs:=
 h.grown (did_set w b i v) fun g hg b' o' hA'=>by
  injection hg with hg
  subst hg
  rcases hA with rfl|⟨g',o'',rfl,hne⟩
  ·cases hA'
  ·injection hA' with hA'
   injection hA' with h1
   omega
theorem St.left {w:World} {b:Nat} {A A':Option Addr} {n c n' c':Nat} {e:Int} {ys:List Int} (h:w.heap[b]?=some (.cells #[.slice A n c,.int .i64 e] 257 (0,0))) (hr:Rd w A' n' c' (u8s ys)) (hA:A'=none∨∃g o,A'=some ⟨g,o,none⟩∧g<b) :
 St (w.setCell ⟨b,0,none⟩ (.slice A' n' c')) b ys e:=
 ⟨A',n',c',by rw [heap_setCell_same w b 0 _ _ _ h];rfl,Rd.far hr hA _,hA⟩
theorem St.fault {w:World} {b:Nat} {xs:List Int} {e:Int} (h:St w b xs e) (x:Int):St (w.setCell ⟨b,1,none⟩ (.int .i64 x)) b xs x:=by
 obtain⟨A,n,c,h,hr,hA⟩:=h
 exact⟨A,n,c,by rw [heap_setCell_same w b 1 _ _ _ h];rfl,Rd.far hr hA _,hA⟩
theorem Rd.drop {w:World} {g o n c:Nat} {xs:List Value} (h:Rd w (some ⟨g,o,none⟩) n c xs) {k:Nat} (hk:k≤n):Rd w (some ⟨g,o+k,none⟩) (n-k) (c-k) (xs.drop k):=
 ⟨by have:=h.1;simp;omega,by have:=h.2.1;omega,by have:=h.2.2.1;omega,fun hp=>by
  obtain⟨b,o',hA,hb,hj⟩:=h.2.2.2 (by omega)
  simp only [Option.some.injEq,Addr.mk.injEq,and_true] at hA
  obtain⟨rfl,rfl⟩:=hA
  exact⟨g,o+k,rfl,hb,fun j u hu=>by
   rw [List.getElem?_drop] at hu
   rw [Nat.add_assoc]
   exact hj (k+j) u hu⟩⟩
def Cut (w:World) (b:Nat) (ys xs:List Int) (x:Int) (e:Ending) (w':World):Prop:=
 ∃A n c,e=.returned (.slice A n c)∧Rd w' A n c (u8s ys)∧St w' b xs x∧w.grownBy w' (some b)
theorem qxy (xs:List Int) (k:Nat):(u8s xs).drop k=u8s (xs.drop k):=by simp [u8s]
theorem goOn_ok (b k:Nat) (xs:List Int) (w:World) (h:St w b xs 0) (hk:k≤xs.length) :
 Calls Tryz.prog 214 #[.pointer (some ⟨b,0,none⟩),.int .i64 k] w (Cut w b (xs.take k) (xs.drop k) 0):=by
 obtain⟨A,n,c,h,hr,hA⟩:=h
 have hl:=Rd.bytes hr
 have hn:=hr.le
 have hc:=hr.cap
 have H:Hid (w.heap[b]?=some (.cells #[.slice A n c,.int .i64 0] 257 (0,0))):=h
 have h0:=two0 h
 have hf:=frozen_of_row _ _ 0 _ _ h
 clear h
 have hk':k≤n:=by omega
 have HL:Hid (xs.length=n):=hl
 clear hl
 rcases hA with rfl|⟨g,o,rfl,hne⟩
 ·have h0n:n=0:=by
   rcases Nat.eq_zero_or_pos n with h|h
   ·exact h
   ·obtain⟨_,_,hA,_⟩:=hr.2.2.2 h
    cases hA
  subst h0n
  obtain rfl:k=0:=by omega
  obtain rfl:xs=[]:=List.eq_nil_of_length_eq_zero HL.o
  go_enter Tryz.func214,Tryz.ntmps214
  go_wp2_with fail
  go_ret
  exact⟨none,0,c,rfl,Rd.empty _ _ hc,St.left H.o (Rd.empty _ _ hc) (.inl rfl),did_set _ _ _ _⟩
 ·go_enter Tryz.func214,Tryz.ntmps214
  go_wp2_with fail
  ·have e:c=k:=by assumption
   subst e
   go_ret
   have hn0:n-c=0:=by omega
   have hd:xs.drop c=[]:=List.drop_of_length_le (by have:=HL.o;omega)
   refine⟨_,_,_,rfl,?_,?_,did_set _ _ _ _⟩
   ·rw [←Vl];exact Rd.far (hr.take hk') (.inr ⟨g,o,rfl,hne⟩) _
   ·rw [hd]
    exact St.left H.o (by rw [hn0];exact Rd.empty _ _ (by omega)) (.inr ⟨g,o,rfl,hne⟩)
  ·go_ret
   refine⟨_,_,_,rfl,?_,?_,did_set _ _ _ _⟩
   ·rw [←Vl];exact Rd.far (hr.take hk') (.inr ⟨g,o,rfl,hne⟩) _
   ·exact St.left H.o (by rw [←qxy];exact Rd.drop hr hk') (.inr ⟨g,_,rfl,hne⟩)
theorem goOn_short (b k:Nat) (xs:List Int) (w:World) (h:St w b xs 0) (hk:xs.length<k) (_hk2:k≤9223372036854775807) :
 Calls Tryz.prog 214 #[.pointer (some ⟨b,0,none⟩),.int .i64 k] w (Cut w b [] xs 1):=by
 have S:Hid (St w b xs 0):=h
 obtain⟨A,n,c,h,hr,hA⟩:=h
 have hl:=Rd.bytes hr
 have hn:=hr.le
 have hc:=hr.cap
 have H:Hid (w.heap[b]?=some (.cells #[.slice A n c,.int .i64 0] 257 (0,0))):=h
 have h0:=two0 h
 clear h
 have hk':n<k:=by omega
 clear hl hA hr
 go_enter Tryz.func214,Tryz.ntmps214
 go_wp2_with (go_at_call 196;refine (fail_no _ _ _ _ _ _ H.o).mono ?_;rintro e w' ⟨rfl,rfl⟩)
 go_ret
 exact⟨none,0,0,rfl,Rd.nil _,St.fault S.o 1,did_set _ _ _ _⟩
theorem clone_any (A:Option Addr) (n c:Nat) (xs:List Int) (w:World) (hx:Rd w A n c (u8s xs)) (hl:n≤100000000000000) :
 Calls Tryz.prog 166 #[.slice A n c] w (Fresh w xs):=by
 obtain⟨i0,hi0,hz0,hz1,hz2⟩:=info_parts info8
 have q:=eqnil
 have HL:Hid (xs.length=n):=Rd.bytes hx
 cases A with
 | none=>
   have h0n:n=0:=by
    rcases Nat.eq_zero_or_pos n with h|h
    ·exact h
    ·obtain⟨_,_,hA,_⟩:=hx.2.2.2 h
     cases hA
   subst h0n
   obtain rfl:xs=[]:=List.eq_nil_of_length_eq_zero HL.o
   go_enter Tryz.func166,Tryz.ntmps166
   go_wp2_with fail
   go_ret
   exact Fresh.of (World.ownsRow_nil _ _ _ _) (Mb _ _)
 | some ad=>
   go_enter Tryz.func166,Tryz.ntmps166
   go_wp2_with (at_builtin;refine Qu _ rfl (.tmp 5) (.tmp 6) _ rfl w.heap.size 5 i0 _ 1 Tryz.underlying31 hi0 hz0 hz1 hz2 rfl _ 0 [] rfl (emptied w _) (some ad) n c (u8s xs) rfl (hx.alloc _) (u8s_one _) (by omega) (by omega) (size_alloc _ _) ?_;intro A2 n2 c2 w2 hn2 hown2 hg2 hat2)
   go_ret
   exact Fresh.of hown2 (below_add ((Mb _ _).alloc (Mr _) _) (emptied w _) (Mr _) hg2)
def Made (w:World) (xs:List Int) (e:Ending) (w':World):Prop:=
 ∃b:Nat,e=.returned (.pointer (some ⟨b,0,none⟩))∧w.heap.size≤b∧St w' b xs 0∧Bw w w'
theorem qxz {w:World} {base:Nat} {e:TypeId} {A:Option Addr} {n c:Nat} {xs:List Value} (h:w.ownsRow base e 1 (.slice A n c) n xs):A=none∨∃g o,A=some ⟨g,o,none⟩∧g<w.heap.size:=by
 rcases h.2 with⟨hv,_⟩|⟨g,cap,cur,hv,_,hh,_⟩
 ·simp only [Value.slice.injEq] at hv
  exact .inl hv.1
 ·simp only [Value.slice.injEq] at hv
  exact .inr ⟨g,0,hv.1,lt_of_block hh⟩
theorem Vh (A:Option Addr) (n c:Nat) (xs:List Int) (w:World) (hx:Rd w A n c (u8s xs)) (hl:n≤100000000000000) :
 Calls Tryz.prog 174 #[.slice A n c] w (Made w xs):=by
 go_enter Tryz.func174,Tryz.ntmps174
 go_wp2_with (go_at_call 166;refine (clone_any A n c xs _ hx hl).mono ?_;rintro e w1 ⟨A1,n1,c1,hn1,rfl,hown1,hb1⟩)
 go_ret
 refine⟨w1.heap.size,rfl,hb1.size,⟨A1,n1,c1,heap_alloc_new w1 _,(Rd.own hown1).alloc _,?_⟩,hb1.alloc hb1.size _⟩
 rcases qxz hown1 with h|⟨g,o,h,hlt⟩
 ·exact .inl h
 ·exact .inr ⟨g,o,h,by omega⟩
def num (xs:List Int):Int:=xs.foldl (fun a b=>256*a+b) 0
theorem qqj {xs:List Int} {j:Nat} (h:j<xs.length):num (xs.take (j+1))=256*num (xs.take j)+xs[j]:=by
 rw [List.take_succ_eq_append_getElem h,num,List.foldl_append]
 rfl
theorem or256 {a u:Nat} (ha:a<281474976710656) (hu:u≤255):bits .or .i64 ((a:Int)*256) (u:Int)=((256*a+u:Nat):Int):=by
 have h:=(bits_nat .i64 63 (by decide) (fun n h0 h1=>IntWalk.i64_in n (by omega)) (256*a) u (by omega) (by omega)).2
 rw [show ((a:Int)*256)=((256*a:Nat):Int) by omega,h]
 have h2:256*a+u=256*a ||| u:=Nat.two_pow_add_eq_or_of_lt (i:=8) (b:=u) (by omega) a
 rw [h2]
def Told (w:World) (b:Nat) (n:Int) (xs:List Int) (x:Int) (e:Ending) (w':World):Prop:=
 e=.returned (.int .i64 n)∧St w' b xs x∧w.grownBy w' (some b)
theorem num_ok (b:Nat) (x:Int) (xs:List Int) (w:World) (h:St w b xs 0) (hk:wd x≤xs.length) (h8:∀u ∈ xs,0≤u∧u≤255) :
 Calls Tryz.prog 175 #[.pointer (some ⟨b,0,none⟩),.int .i64 x] w (Told w b (num (xs.take (wd x))) (xs.drop (wd x)) 0):=by
 have S:Hid (St w b xs 0):=h
 obtain⟨A,n,c,h,hr0,_⟩:=h
 have H:Hid (w.heap[b]?=some (.cells #[.slice A n c,.int .i64 0] 257 (0,0))):=h
 clear h hr0
 have H8:Hid (∀u ∈ xs,0≤u∧u≤255):=h8
 clear h8
 have hw:=wd_le x
 go_enter Tryz.func175,Tryz.ntmps175
 go_wp2_with (first
  | (go_at_call 195;refine (next_no _ _ _ _ _ H.o).mono ?_;rintro e w' ⟨rfl,rfl⟩)
  | (go_at_call 135;refine (width_any _ _).mono ?_;rintro e w' ⟨rfl,rfl⟩)
  | (go_at_call 214;refine (goOn_ok b (wd x) xs w S.o hk).mono ?_;rintro e w1 ⟨A1,n1,c1,rfl,hr1,hs1,hd1⟩))
 obtain⟨ys,hys⟩:∃ys,ys=xs.take (wd x):=⟨_,rfl⟩
 rw [←hys] at hr1
 have hyl:ys.length=wd x:=by rw [hys];simp;omega
 have hn1:n1=wd x:=by have:=Rd.bytes hr1;omega
 have hy8:∀u ∈ ys,0≤u∧u≤255:=fun u hu=>H8.o u (by rw [hys] at hu;exact List.mem_of_mem_take hu)
 have HY:Hid (∀u ∈ ys,0≤u∧u≤255):=hy8
 have HYL:Hid (ys.length=wd x):=hyl
 have HYS:Hid (ys=xs.take (wd x)):=hys
 have hn6:n1≤6:=by omega
 have HN:Hid (n1=wd x):=hn1
 clear hy8 hyl hys hn1 H8
 go_loopw [5,14] (fun v i wr=>∃j:Nat,j≤n1∧i=.int .i64 j∧w1=wr∧∃a:Nat,v=.int .i64 a∧Hid ((a:Int)=num (ys.take j))∧Hid (a<2 ^ (8*j))) (fun _ i _=>n1-(intOf i).toNat)
 case atStart=>exact⟨0,Nat.zero_le _,rfl,rfl,0,rfl,(show _=_ by simp [num]),(show _<_ by simp)⟩
 case round=>
  obtain⟨j,hj,rfl,rfl,a,rfl,ha,hlt⟩:=hrel
  by_cases hjn:j<n1
  ·have hjl:j<ys.length:=by have:=HYL.o;have:=HN.o;omega
   obtain⟨bb,o,hA,hc⟩:=Rd.byte hr1 hjl
   subst hA
   obtain⟨u,hu,hu2⟩:∃u:Nat,ys[j]=(u:Int)∧u≤255:=by
    have:=HY.o ys[j] (Me_ hjl)
    exact⟨ys[j].toNat,by omega,by omega⟩
   rw [hu] at hc
   have HU:Hid (ys[j]=(u:Int)):=hu
   have ha2:a<281474976710656:=by
    have:=hlt.o
    have:=pow_le (k:=j) (by omega)
    omega
   clear hu
   go_wp2
   go_roundw
   case rel=>
    refine⟨j+1,by omega,by go_num,trivial,256*a+u,V2 (or256 ha2 hu2),(show _=_ from ?_),(show _<_ from ?_)⟩
    ·rw [qqj hjl,←ha.o,HU.o]
     omega
    ·have:=hlt.o
     have e:8*(j+1)=8*j+8:=by omega
     rw [e,Nat.pow_add]
     omega
   case measure=>simp [intOf];omega
  ·obtain rfl:j=n1:=by omega
   go_wp2
   go_ret
   refine⟨?_,hs1,hd1⟩
   have:=ha.o
   rw [Mt (by have:=HYL.o;have:=HN.o;omega),HYS.o] at this
   exact Qg this
theorem num_short (b:Nat) (x:Int) (xs:List Int) (w:World) (h:St w b xs 0) (hk:xs.length<wd x) :
 Calls Tryz.prog 175 #[.pointer (some ⟨b,0,none⟩),.int .i64 x] w (Told w b 0 xs 1):=by
 have S:Hid (St w b xs 0):=h
 obtain⟨A,n,c,h,hr0,_⟩:=h
 have H:Hid (w.heap[b]?=some (.cells #[.slice A n c,.int .i64 0] 257 (0,0))):=h
 clear h hr0
 have hw:=wd_le x
 go_enter Tryz.func175,Tryz.ntmps175
 go_wp2_with (first
  | (go_at_call 195;refine (next_no _ _ _ _ _ H.o).mono ?_;rintro e w' ⟨rfl,rfl⟩)
  | (go_at_call 135;refine (width_any _ _).mono ?_;rintro e w' ⟨rfl,rfl⟩)
  | (go_at_call 214;refine (goOn_short b (wd x) xs w S.o hk (by omega)).mono ?_;rintro e w1 ⟨A1,n1,c1,rfl,hr1,hs1,hd1⟩))
 obtain rfl:n1=0:=by have:=Rd.bytes hr1;simpa using this.symm
 refine wp_loop_rounds 1 ?_
 rw [rounds_succ]
 go_wp2
 go_ret
 exact⟨rfl,hs1,hd1⟩
theorem num_fault (b:Nat) (x:Int) (xs:List Int) (e:Int) (w:World) (h:St w b xs e) (he:(e != 0)=true) :
 Calls Tryz.prog 175 #[.pointer (some ⟨b,0,none⟩),.int .i64 x] w (Told w b 0 xs e):=by
 have S:Hid (St w b xs e):=h
 obtain⟨A,n,c,h,hr0,_⟩:=h
 have H:Hid (w.heap[b]?=some (.cells #[.slice A n c,.int .i64 e] 257 (0,0))):=h
 clear h hr0
 go_enter Tryz.func175,Tryz.ntmps175
 go_wp2_with (first
  | (go_at_call 195;refine (next_yes _ _ _ _ _ _ H.o he).mono ?_;rintro e w' ⟨rfl,rfl⟩)
  | (go_at_call 135;refine (width_any _ _).mono ?_;rintro e w' ⟨rfl,rfl⟩)
  | (go_at_call 213;refine (stay_any _ _ _).mono ?_;rintro e w' ⟨rfl,rfl⟩))
 refine wp_loop_rounds 1 ?_
 rw [rounds_succ]
 go_wp2
 go_ret
 exact⟨rfl,S.o,World.grownBy.refl _ _⟩
theorem St.below {w w':World} {b:Nat} {xs:List Int} {e:Int} (h:St w b xs e) (hb:Bw w w'):St w' b xs e:=by
 obtain⟨A,n,c,h,hr,hA⟩:=h
 exact⟨A,n,c,(hb.block b (lt_of_block h)).trans h,hr.below hb,hA⟩
theorem St.lt {w:World} {b:Nat} {xs:List Int} {e:Int} (h:St w b xs e):b<w.heap.size:=by
 obtain⟨A,n,c,h,_⟩:=h
 exact lt_of_block h
def rdN (k:Nat) (xs:List Int) (e:Int):Int×List Int×Int:=
 if e≠0 then (0,xs,e) else if k≤xs.length then (num (xs.take k),xs.drop k,0) else (0,xs,1)
theorem num_any (b:Nat) (x:Int) (xs:List Int) (e:Int) (w:World) (h:St w b xs e) (h8:∀u ∈ xs,0≤u∧u≤255) :
 Calls Tryz.prog 175 #[.pointer (some ⟨b,0,none⟩),.int .i64 x] w (Told w b (rdN (wd x) xs e).1 (rdN (wd x) xs e).2.1 (rdN (wd x) xs e).2.2):=by
 unfold rdN
 by_cases he:e=0
 ·subst he
  rw [if_neg (by simp)]
  by_cases hk:wd x≤xs.length
  ·rw [if_pos hk]
   exact num_ok b x xs w h hk h8
  ·rw [if_neg hk]
   exact num_short b x xs w h (by omega)
 ·rw [if_pos he]
  exact num_fault b x xs e w h (by simpa using he)
def endN (xs:List Int) (e:Int):Int:=if e≠0 then e else if xs=[] then 0 else 2
theorem Jt {k:Nat} {xs:List Int} {e:Int} (h:∀u ∈ xs,0≤u∧u≤255):∀u ∈ (rdN k xs e).2.1,0≤u∧u≤255:=by
 unfold rdN
 split
 ·exact h
 ·split
  ·exact fun u hu=>h u (List.mem_of_mem_drop hu)
  ·exact h
end TabR
namespace Beq
open Kit Byt
def nl (xs:List Nat):List Int:=xs.map fun n:Nat=>(n:Int)
def stn (xs:List Nat):ByteArray:=strOfNums (nl xs)
theorem qqk {P:Program} {w:World} {A:Option Addr} {n c:Nat} {xs:List Nat} {src e dst:TypeId} (hr:Rd w A n c (u8n xs)) (hs:P.underlying src=some (.slice e)) (he:P.underlying e=some (.int .u8)) (hd:P.underlying dst=some .string) :
 (convert src dst (.slice A n c)).run P w=.ok (.string (stn xs)) w:=by
 have hl:=Rd.nats hr
 rcases Nat.eq_zero_or_pos n with h0|h0
 ·subst h0
  obtain rfl:xs=[]:=List.eq_nil_of_length_eq_zero hl
  rcases A with _|a
  ·rw [run_convert_bytes_nil w src e hs he 0 c dst hd]
   rfl
  ·rw [run_convert_bytes_string w src dst e _ 0 c hs he hd,run_bytesToString w a 0 c [] (by simp [loadCells,loadCellsFrom])]
   rfl
 ·obtain⟨b,o,rfl,_,hc⟩:=hr.2.2.2 h0
  exact run_convert_bytes_arg w src e hs he b o n c (nl xs) (by simp [nl,hl]) (fun i hi=>by
   rw [hc i (.int .u8 ((nl xs).getD i 0)) (by
    have:i<xs.length:=by omega
    simp [u8n,nl,List.getD,this])]) dst hd
theorem stn_inj {xs ys:List Nat} (hx:∀u ∈ xs,u<256) (hy:∀u ∈ ys,u<256) (h:(stn xs).toList=(stn ys).toList):xs=ys:=by
 unfold stn at h
 rw [Lib.strOfNums_toList,Lib.strOfNums_toList] at h
 have h2:=congrArg (List.map UInt8.toNat) h
 have e:∀zs:List Nat,(∀u ∈ zs,u<256)→(Lib.bytesOf (nl zs)).map UInt8.toNat=zs:=by
  intro zs hz
  have:(Lib.bytesOf (nl zs)).map UInt8.toNat=zs.map id:=by
   simp only [Lib.bytesOf,nl,List.map_map]
   refine List.map_congr_left fun u hu=>?_
   have:=hz u hu
   simp [Nat.mod_eq_of_lt this]
  simpa using this
 rw [e xs hx,e ys hy] at h2
 exact h2
theorem eql_str {xs ys:List Nat} (hx:∀u ∈ xs,u<256) (hy:∀u ∈ ys,u<256):((stn xs).toList==(stn ys).toList)=decide (xs=ys):=by
 rw [Bool.eq_iff_iff]
 simp only [beq_iff_eq,decide_eq_true_eq]
 exact⟨stn_inj hx hy,fun h=>by rw [h]⟩
theorem Jn (A B:Option Addr) (n m c d:Nat) (xs ys:List Nat) (w:World) (hx:Rd w A n c (u8n xs)) (hy:Rd w B m d (u8n ys)) (bx:∀u ∈ xs,u<256) (by_:∀u ∈ ys,u<256) :
 Calls Tryz.prog 142 #[.slice A n c,.slice B m d] w fun e w'=>e=.returned (.bool (decide (xs=ys)))∧w=w':=by
 have c1:=qqk (P:=Tryz.prog) (src:=31) (e:=5) (dst:=9) hx Tryz.underlying31 Tryz.underlying5 Tryz.underlying9
 have c2:=qqk (P:=Tryz.prog) (src:=31) (e:=5) (dst:=9) hy Tryz.underlying31 Tryz.underlying5 Tryz.underlying9
 have c3:=Hz (eql_str bx by_)
 generalize decide (xs=ys)=q at *
 generalize stn xs=sx at *
 generalize stn ys=sy at *
 clear hx hy bx by_
 go_enter Tryz.func142,Tryz.ntmps142
 go_wp2
 go_ret
 exact⟨Q3 c3.o,rfl⟩
end Beq
namespace ImgS
open Kit Byt Mem Beq ShaM ShaE ShaH
theorem Rd.of_blk {w:World} {g k n:Nat} {t:TypeId} {xs:List Nat} (hB:Blk w g t (u8n xs)) (hn:xs.length=n) (hk:k≤n) (h63:n≤9223372036854775807):Rd w (some ⟨g,0,none⟩) k n (u8n (xs.take k)):=by
 refine⟨by rw [Qv];simp;omega,hk,h63,fun _=>⟨g,0,rfl,hB.lt,fun j u hu=>?_⟩⟩
 rw [Nat.zero_add]
 refine hB.cell ?_
 have e:u8n (xs.take k)=(u8n xs).take k:=by simp [u8n]
 rw [e,List.getElem?_take] at hu
 split at hu
 ·exact hu
 ·cases hu
theorem J3 (xs:List Nat):u8n xs=NumA.u8s (nl xs):=by simp [u8n,nl]
def pbn (n x:Int):List Nat:=(List.range (NumA.wd x)).map fun i=>NumB.cl (NumA.wd x) n/2 ^ (8*(NumA.wd x-1-i))%256
theorem Ug (n x:Int):nl (pbn n x)=NumB.putb n x:=by simp [nl,pbn,NumB.putb,NumB.be,List.map_map,Function.comp_def]
theorem Zh (n x:Int):(pbn n x).length=NumA.wd x:=by simp [pbn]
theorem pbn_lt (n x:Int):by256 (pbn n x):=by
 intro c hc
 simp only [pbn,List.mem_map,List.mem_range] at hc
 obtain⟨i,_,rfl⟩:=hc
 omega
theorem Xt (xs ys:List Nat):nl (xs++ys)=nl xs++nl ys:=by simp [nl]
theorem Ww (xs:List Nat):(nl xs).length=xs.length:=by simp [nl]
theorem size32:(Tryz.prog.info? 239).map (·.size)=some 32:=by kernel_rfl
def Summed (w:World) (g:Nat) (xs:List Nat) (e:Ending) (w':World):Prop:=
 ∃A n c,e=.returned (.slice A n c)∧Rd w' A n c (u8n xs)∧w.grownBy w' (some g)
theorem dsum_any (g:Nat) (A:Option Addr) (n c:Nat) (xs:List Nat) (w:World) (hT:Tab w) (h0:0<g) (hH:Hs w g []) (hS:Src w g A n c xs) (hx:by256 xs) (hbd:xs.length<549755813888) :
 Calls Tryz.prog 138 #[.agg #[.pointer (some ⟨g,0,none⟩)],.slice A n c] w (Summed w g (dig xs)):=by
 have HT:=Hz hT
 have HS:=Hz hS
 have HH:=Hz hH
 have hlt:=hH.lt
 have hz32:=ShaF.zero32
 obtain⟨Z2,hZ2⟩:∃Z2:Array Value,Z2=(u8n (List.replicate 32 0)).toArray:=⟨_,rfl⟩
 simp only [←hZ2] at hz32
 have HZ2:=Hz hZ2
 obtain⟨D,hD⟩:∃D:List Nat,D=dig xs:=⟨_,rfl⟩
 have hdl:D.length=32:=by rw [hD,Vn]
 have HSM:=Hz (fun w1 (h1:Tab w1) (h2:Hs w1 g xs)=>ShaJ.sum_any g xs w1 h1 h2 hx hbd)
 rw [←hD] at HSM
 rw [←hD]
 clear hT hS hH hZ2 hD
 go_enter Tryz.func138,Tryz.ntmps138
 go_wp2_with fail
 have hb0:Bw w (w.alloc (.cells #[.pointer (some ⟨g,0,none⟩)] 207)):=(Mb _ _).alloc (Mr _) _
 have hB0:=Hz (Blk.new w 207 [.pointer (some ⟨g,0,none⟩)])
 have hs0:(w.alloc (.cells #[.pointer (some ⟨g,0,none⟩)] 207)).heap.size=w.heap.size+1:=by simp
 have HS0:=Hz (show Src (w.alloc (.cells #[.pointer (some ⟨g,0,none⟩)] 207)) g A n c xs from⟨HS.o.1.below hb0,HS.o.2⟩)
 have HH0:=Hz (HH.o.below hb0)
 have HT0:=Hz (HT.o.below hb0 HT.o.1)
 have HB0:=Hz hb0
 clear hb0
 generalize hw0:w.alloc (.cells #[.pointer (some ⟨g,0,none⟩)] 207)=w0 at *
 clear hw0
 refine (ShaI.write_any g A n c xs [] w0 HT0.o h0 HH0.o HS0.o hx (by simp;omega)).mono ?_
 rintro e w1 ⟨rfl,hH1,hg1⟩
 rw [List.nil_append] at hH1
 have HK1:=Hz (show Keep (fun k=>k=g) w w1 from (Keep.of_below HB0.o).trans (Keep.grown hg1 (fun k hk=>by injection hk with hk;exact hk.symm)) (fun k h=>.inl h))
 have hB1:Blk w1 w.heap.size 207 [.pointer (some ⟨g,0,none⟩)]:=(hg1.block w.heap.size (by omega) (by simp;omega)).trans hB0.o
 have c1:=hB1.cell (i:=0) rfl
 have HT1:=Hz (show Tab w1 from⟨by have:=HK1.o.size;omega,fun i hi=>(World.cell?_of_block (HK1.o.block 0 HT.o.1 (show ¬0=g by omega))).trans (HT.o.2 i hi)⟩)
 have HH1:=Hz hH1
 clear hH1 hg1 hB0 hB1 HB0
 go_wp2_with (first
  | (go_at_call 169;refine (HSM.o w1 HT1.o HH1.o).mono ?_;rintro e w2 ⟨rfl,hb2⟩;clear c1)
  | (refine Qq rfl 239 (.tmp 5) (.tmp 12) rfl w2.heap.size rfl (u8n D) rfl (Blk_at HZ2.o rfl) (by rw [Qv,Qv,hdl,List.length_replicate]) (by rw [Qv,hdl];exact size32) (u8n_one _) ?_;intro w3 hB3 ho3))
 go_ret
 have hR:=Rd.of_blk (k:=32) hB3.o hdl (by omega) (by omega)
 rw [Mt (by omega)] at hR
 refine⟨_,_,_,rfl,hR,?_⟩
 have hb3:Bw w2 w3:=ho3.o.below ((Mb w2.heap.size w2).alloc (Mr _) (.cells Z2 239)) (Mr _) (by simp)
 have hk:=HK1.o.trans (Keep.of_below (F:=fun k=>k=g) (hb2.trans (hb3.mono hb2.size))) (fun _ h=>.inl h)
 exact⟨hk.os,hk.tape,hk.output,hk.size,fun k hk1 hk2=>hk.block k hk1 (fun h=>hk2 (by rw [show k=g from h]))⟩
theorem tsum_any (g:Nat) (A:Option Addr) (n c:Nat) (xs:List Nat) (w:World) (hT:CrcC.Tb w g 256) (hR:Rd w A n c (u8n xs)) (hx:by256 xs) :
 Calls Tryz.prog 140 #[.agg #[.pointer (some ⟨g,0,none⟩)],.slice A n c] w fun e w'=>∃A' n' c',e=.returned (.slice A' n' c')∧Rd w' A' n' c' (u8n (pbn (CrcM.sm xs:Nat) 4))∧Bw w w':=by
 have HS:=Hz (CrcD.T8 g A n c xs (w.alloc (.cells #[.pointer (some ⟨g,0,none⟩)] 211)) (CrcD.Tb.below hT ((Mb _ _).alloc (Mr _) _)) (hR.alloc _) hx)
 have hlt:CrcM.sm xs<4294967296:=CrcM.sm_lt xs
 obtain⟨y,hy⟩:∃y,y=CrcM.sm xs:=⟨_,rfl⟩
 rw [←hy] at HS hlt
 rw [←hy]
 clear hT hR hy
 go_enter Tryz.func140,Tryz.ntmps140
 go_wp2_with (first
  | (go_at_call 171;refine HS.o.mono ?_;rintro e w1 ⟨rfl,rfl⟩)
  | (go_at_call 92;refine (NumB.put_any none 0 0 [] (y:Nat) 4 _ (Rd.nil _) (by omega)).mono ?_;rintro e w1 ⟨A1,n1,c1,hn1,rfl,hown1,hb1⟩))
 go_ret
 refine⟨A1,n1,c1,rfl,?_,?_⟩
 ·rw [J3,Ug]
  simpa using Rd.own hown1
 ·exact ((Mb w.heap.size w).alloc (Mr _) _).trans (hb1.mono (by simp))
def Fun2 (w:World) (G gH gT:Nat):Prop:=Blk w G 117 [.func (.func 138) #[.agg #[.pointer (some ⟨gH,0,none⟩)]] #[],.func (.func 140) #[.agg #[.pointer (some ⟨gT,0,none⟩)]] #[]]
def closed (xs:List Nat):List Nat:=(xs++dig xs)++pbn (CrcM.sm (xs++dig xs):Nat) 4
theorem Qn (xs:List Nat):(closed xs).length=xs.length+36:=by
 unfold closed
 rw [Ma,Ma,Vn,Zh]
 rfl
theorem closed_lt {xs:List Nat} (h:by256 xs):by256 (closed xs):=fun c hc=>by
 rcases List.mem_append.1 hc with h1|h1
 ·rcases List.mem_append.1 h1 with h2|h2
  ·exact h c h2
  ·exact dig_lt xs c h2
 ·exact pbn_lt _ _ c h1
theorem turn_any (A:Option Addr) (n c:Nat) (xs:List Nat) (gH gT G:Nat) (w:World) (hT:Tab w) (hR:Rd w A n c (u8n xs)) (hx:by256 xs) (hl:xs.length≤100000) (h0:0<gH) (hH:Hs w gH []) (hTb:CrcC.Tb w gT 256) (hF:Fun2 w G gH gT) (hne:gT≠gH) (hG:G≠gH) :
 Calls Tryz.prog 136 #[.slice A n c,.slice (some ⟨G,0,none⟩) 2 2] w fun e w'=>∃B m d,e=.returned (.slice B m d)∧w'.ownsRow w.heap.size 5 1 (.slice B m d) m (u8n (closed xs))∧w.grownBy w' (some gH):=by
 obtain⟨i0,hi0,hz0,hz1,hz2⟩:=info_parts NumA.info8
 have HT:=Hz hT
 have HH:=Hz hH
 have HTb:=Hz hTb
 have HF:=Hz hF
 have hn:xs.length=n:=Rd.nats hR
 have hR':=hR
 rw [J3] at hR'
 have HC:=Hz (TabR.clone_any A n c (nl xs) w hR' (by omega))
 have hgH:=hH.lt
 clear hT hR hR' hH hTb hF
 go_enter Tryz.func136,Tryz.ntmps136
 go_wp2_with (go_at_call 166;refine HC.o.mono ?_;rintro e w1 ⟨A1,n1,c1,hn1,rfl,hown1,hb1⟩)
 have hown1':w1.ownsRow w.heap.size 5 1 (.slice A1 n1 c1) n1 (u8n xs):=by rw [J3];exact hown1
 obtain rfl:n1=n:=by have:=hn1.o;rw [Ww] at this;omega
 obtain⟨D,hD⟩:∃D:List Nat,D=dig xs:=⟨_,rfl⟩
 have hdl:D.length=32:=by rw [hD,Vn]
 obtain⟨E,hE⟩:∃E:List Nat,E=pbn (CrcM.sm (xs++D):Nat) 4:=⟨_,rfl⟩
 have hel:E.length=4:=by rw [hE,Zh];rfl
 have HCL:=Hz (show closed xs=xs++D++E from by rw [hE,hD];rfl)
 have HD:=Hz hD
 have HE:=Hz hE
 have hxd:by256 (xs++D):=fun c hc=>by
  rcases List.mem_append.1 hc with h|h
  ·exact hx c h
  ·rw [hD] at h;exact dig_lt xs c h
 have HXD:=Hz hxd
 have HN:=Hz hn
 clear hD hE hown1 hn1 hn HC hxd
 go_loopw [5,7,12] (fun o f i wr=>∃(k:Nat) (B:Option Addr) (m d:Nat) (ys:List Nat),k≤2∧i=.int .i64 k∧o=.slice B m d∧Hid (wr.ownsRow w.heap.size 5 1 (.slice B m d) m (u8n ys))∧Hid (Keep (fun q=>q=gH) w wr)∧Hid (k=0→ys=xs∧Hs wr gH [])∧Hid (k=1→ys=xs++D)∧Hid (k=2→ys=xs++D++E)) (fun _ _ i _=>2-(intOf i).toNat)
 case atStart=>exact⟨0,A1,n1,c1,xs,by omega,rfl,rfl,Hz hown1',Hz (Keep.of_below hb1),Hz (fun _=>⟨rfl,HH.o.below hb1⟩),Hz (fun h=>by omega),Hz (fun h=>by omega)⟩
 case round=>
  obtain⟨k,B,m,d,ys,hk,rfl,rfl,hO,hKP,h00,h11,h22⟩:=hrel
  have hKs:=hKP.o.size
  have hTr:=Hz (show Tab wr from⟨by have:=HT.o.1;omega,fun i hi=>(World.cell?_of_block (hKP.o.block 0 HT.o.1 (show ¬0=gH by omega))).trans (HT.o.2 i hi)⟩)
  have hFr:Fun2 wr G gH gT:=hKP.o.blk HF.o (by show ¬G=gH;exact hG)
  have hml:ys.length=m:=by have:=hO.o.1;rw [Qv] at this;omega
  match k,hk with
  | 0,_=>
    obtain⟨rfl,hH1⟩:=h00.o rfl
    have f0:=hFr.cell (i:=0) rfl
    have HS:=Hz (dsum_any gH B m d ys wr hTr.o h0 hH1 ⟨Rd.own hO.o,fun _ b o hA=>by
     have:=hO.o.lt b (by rw [hA];rfl)
     omega⟩ hx (by omega))
    rw [←HD.o] at HS
    clear h00 h11 h22
    go_wp2_with (first
     | (go_at_call 138;refine HS.o.mono ?_;rintro e w2 ⟨A2,n2,c2,rfl,hR2,hg2⟩;have hO2:=Hz (show w2.ownsRow w.heap.size 5 1 (.slice B m d) m (u8n ys) from (Keep.grown (F:=fun q=>q=gH) hg2 (fun k hk=>by injection hk with hk;exact hk.symm)).own hO.o (fun q hq hqg=>by have:=(hO.o.lt q hq);have h2:q=gH:=hqg;omega));have hK2:=Hz (hKP.o.trans (Keep.grown (F:=fun q=>q=gH) hg2 (fun k hk=>by injection hk with hk;exact hk.symm)) (fun _ h=>.inl h));obtain rfl:32=n2:=by have:=Rd.nats hR2;omega
        clear hg2 f0)
     | (at_builtin;refine Qu _ rfl (.tmp 16) (.tmp 19) _ rfl w.heap.size 5 i0 _ 1 Tryz.underlying31 hi0 hz0 hz1 hz2 rfl _ m _ rfl hO2.o A2 32 c2 (u8n D) rfl hR2 (u8n_one _) (by omega) (by omega) (by have:=hK2.o.size;omega) ?_;intro A3 n3 c3 w3 hn3 hown3 hg3 hat3;clear hat3))
    go_roundw
    case rel=>exact⟨1,A3,n3,c3,ys++D,by omega,rfl,rfl,Hz (by rw [←Ju];exact hown3),Hz (hK2.o.trans (Keep.grown (F:=fun q=>w.heap.size≤q) hg3 (fun q hq=>(hO2.o.lt q hq).1)) (fun q h=>.inr h)),Hz (fun h=>by omega),Hz (fun _=>rfl),Hz (fun h=>by omega)⟩
    case measure=>simp [intOf]
  | 1,_=>
    obtain rfl:=h11.o rfl
    have f1:=hFr.cell (i:=1) rfl
    have HS:=Hz (tsum_any gT B m d (xs++D) wr ((hKP.o.block gT (lt_of_block HTb.o) (by show ¬gT=gH;exact hne)).trans HTb.o) (Rd.own hO.o) HXD.o)
    rw [←HE.o] at HS
    clear h00 h11 h22
    go_wp2_with (first
     | (go_at_call 140;refine HS.o.mono ?_;rintro e w2 ⟨A2,n2,c2,rfl,hR2,hb2⟩;have hO2:=Hz (own_below hO.o hb2);have hK2:=Hz (hKP.o.trans (Keep.of_below (F:=fun q=>q=gH) hb2) (fun _ h=>.inl h));obtain rfl:4=n2:=by have:=Rd.nats hR2;omega
        clear hb2 f1)
     | (at_builtin;refine Qu _ rfl (.tmp 16) (.tmp 19) _ rfl w.heap.size 5 i0 _ 1 Tryz.underlying31 hi0 hz0 hz1 hz2 rfl _ m _ rfl hO2.o A2 4 c2 (u8n E) rfl hR2 (u8n_one _) (by simp at hml;omega) (by simp at hml;omega) (by have:=hK2.o.size;omega) ?_;intro A3 n3 c3 w3 hn3 hown3 hg3 hat3;clear hat3))
    go_roundw
    case rel=>exact⟨2,A3,n3,c3,xs++D++E,by omega,rfl,rfl,Hz (by rw [←Ju];exact hown3),Hz (hK2.o.trans (Keep.grown (F:=fun q=>w.heap.size≤q) hg3 (fun q hq=>(hO2.o.lt q hq).1)) (fun q h=>.inr h)),Hz (fun h=>by omega),Hz (fun h=>by omega),Hz (fun _=>rfl)⟩
    case measure=>simp [intOf]
  | 2,_=>
    obtain rfl:=h22.o rfl
    clear h00 h11 h22
    go_wp2
    go_ret
    refine⟨B,m,d,rfl,by rw [HCL.o];exact hO.o,?_⟩
    have hk:=hKP.o
    exact⟨hk.os,hk.tape,hk.output,hk.size,fun k hk1 hk2=>hk.block k hk1 (fun h=>hk2 (by rw [show k=gH from h]))⟩
def Gives (w:World) (xs:List Nat) (e:Ending) (w':World):Prop:=∃B m d,e=.returned (.slice B m d)∧w'.ownsRow w.heap.size 5 1 (.slice B m d) m (u8n xs)∧Bw w w'
theorem own_mono {w:World} {b b':Nat} {e:TypeId} {v:Value} {n:Nat} {xs:List Value} (h:w.ownsRow b' e 1 v n xs) (hb:b≤b'):w.ownsRow b e 1 v n xs:=by
 refine⟨h.1,?_⟩
 rcases h.2 with h1|⟨g,cap,cur,hv,hg,hrest⟩
 ·exact .inl h1
 ·exact .inr ⟨g,cap,cur,hv,by omega,hrest⟩
theorem sealed_any (A:Option Addr) (n c:Nat) (xs:List Nat) (w:World) (hT:Tab w) (hR:Rd w A n c (u8n xs)) (hx:by256 xs) (hl:xs.length≤100000) :
 Calls Tryz.prog 93 #[.slice A n c] w (Gives w (closed xs)):=by
 have HT:=Hz hT
 have HR:=Hz hR
 have hmf:=CrcD.Y5
 clear hT hR
 go_enter Tryz.func93,Tryz.ntmps93
 go_wp2_with fail
 refine (ShaJ.K2 _).mono ?_
 rintro e w1 ⟨g,rfl,hg,hH1,hb1⟩
 have HH1:=Hz hH1
 clear hH1
 go_wp2_with fail
 refine (CrcC.Wq _).mono ?_
 rintro e w2 ⟨rfl,hT2,hb2,hs2⟩
 have hlt:=HH1.o.lt
 have h00:=HT.o.1
 have hb12:Bw w w2:=hb1.trans (hb2.mono hb1.size)
 have hb3:Bw w (w2.alloc (.cells #[.func (.func 138) #[.agg #[.pointer (some ⟨g,0,none⟩)]] #[],.func (.func 140) #[.agg #[.pointer (some ⟨w1.heap.size,0,none⟩)]] #[]] 117)):=hb12.alloc hb12.size _
 have HC:=Hz (turn_any A n c xs g w1.heap.size w2.heap.size (w2.alloc (.cells #[.func (.func 138) #[.agg #[.pointer (some ⟨g,0,none⟩)]] #[],.func (.func 140) #[.agg #[.pointer (some ⟨w1.heap.size,0,none⟩)]] #[]] 117)) (HT.o.below hb3 h00) (HR.o.below hb3) hx hl (by omega) (HH1.o.below (hb2.alloc hb2.size _)) (CrcD.Tb.below hT2 ((Mb w2.heap.size w2).alloc (Mr _) _)) (Blk.new w2 _ [.func (.func 138) #[.agg #[.pointer (some ⟨g,0,none⟩)]] #[],.func (.func 140) #[.agg #[.pointer (some ⟨w1.heap.size,0,none⟩)]] #[]]) (by omega) (by omega))
 have HB3:=Hz hb3
 have hs3:w.heap.size≤w2.heap.size:=hb12.size
 clear hT2 hb2 hb1 HH1 hb3 hb12 hs2
 go_wp2_with fail
 refine HC.o.mono ?_
 rintro e w3 ⟨B,m,d,rfl,hR3,hg3⟩
 go_wp2_with fail
 go_ret
 exact⟨B,m,d,rfl,own_mono hR3 (by simp;omega),HB3.o.grown hg3 (by simp;omega) (fun k hk=>by injection hk with hk;omega)⟩
end ImgS
namespace ImgA
open Kit Byt Mem
theorem Kv {H:Type} {enc:TypeId×Value→H} {w:World} {t e:TypeId} {fuel:Nat} {cs:List Value} {x:DataW H×List MemPlace} {P:Program}
 (ht:P.underlying t=some (.slice e)) (he:P.underlying e=some (.int .u8)) (hc:P.cellsOf e=1) (h:DataW.trod enc P w 0 (fun _=>true) true fuel t cs=some x) :
 ∃A n c xs,cs=[.slice A n c]∧Rd w A n c (u8n xs)∧∀u ∈ xs,u<256:=by
 rcases Go.Deep.open_slice1 ht hc h with⟨hcs,_⟩|⟨a,n,c,m,q,V,D,Pl,hcs,_,hl,hm,hmm,_,hi⟩
 ·exact⟨none,0,0,[],hcs,Rd.nil w,by simp⟩
 ·have each:∀i,i<n→∃u:Nat,u<256∧w.cell? (a.add i)=some (.int .u8 (u:Int)):=by
   intro i hin
   obtain⟨h1,h2⟩:=hi i (by rw [hmm];simp;omega)
   obtain⟨v,q,_,wv⟩:=DataW.trod_int he h2
   have hb:=bounds_u8 wv
   obtain hv:V i=.int .u8 v:=by simpa using q
   exact⟨v.toNat,by omega,by rw [h1,hv,Int.toNat_of_nonneg hb.1]⟩
  obtain⟨f,hf2⟩:=Go.Deep.choose_lt each
  refine⟨some a,n,c,(List.range n).map f,hcs,⟨by simp [u8n],hl,by unfold maxLen at hm;omega,fun hp=>?_⟩,?_⟩
  ·obtain⟨b,off,spot⟩:=a
   have hc0:=(hf2 0 hp).2
   have hspot:spot=none:=by simpa [Addr.add] using World.cell?_spot hc0
   subst hspot
   refine⟨b,off,rfl,?_,fun j u hu=>?_⟩
   ·have:=block_lt_of_cell hc0
    simpa [Addr.add] using this
   ·have hj:j<n:=by
     have:=(List.getElem?_eq_some_iff.1 hu).1
     simpa [u8n] using this
    simp only [u8n,List.map_map,List.getElem?_map,List.getElem?_range hj,Option.map_some,Option.some.injEq] at hu
    subst hu
    have:=(hf2 j hj).2
    rwa [Addr.add_lit] at this
  ·intro u hu
   simp only [List.mem_map,List.mem_range] at hu
   obtain⟨i,hi',rfl⟩:=hu
   exact (hf2 i hi').1
structure Im where
 p:Int
 v:Int
 h:Int
 m:Int
 f:Int
 s:Int
 r:Int
 A:Option Addr
 n:Nat
 c:Nat
 xs:List Nat
@[reducible] def Im.val (i:Im):Value:=.agg #[.int .i64 i.p,.int .i64 i.v,.int .i64 i.h,.int .i64 i.m,.int .i64 i.f,.int .i64 i.s,.int .i64 i.r,.slice i.A i.n i.c]
def Im.cells (i:Im):List Value:=[.int .i64 i.p,.int .i64 i.v,.int .i64 i.h,.int .i64 i.m,.int .i64 i.f,.int .i64 i.s,.int .i64 i.r,.slice i.A i.n i.c]
structure Im.ok (w:World) (i:Im):Prop where
 code:Rd w i.A i.n i.c (u8n i.xs)
 byt:∀u ∈ i.xs,u<256
theorem Im.ok.len {w:World} {i:Im} (h:i.ok w):i.xs.length=i.n:=Rd.nats h.code
theorem Im.ok.below {w w':World} {i:Im} (h:i.ok w) (hb:Bw w w'):i.ok w':=⟨h.code.below hb,h.byt⟩
def Yes (w:World) (b:Bool) (e:Ending) (w':World):Prop:=e=.returned (.bool b)∧Bw w w'
structure Bx (w:World) (g:Nat) (i:Im) (wr:World):Prop where
 blk:Blk wr g 33 i.cells
 new_:w.heap.size≤g
 bel:Bw w wr
theorem Bx.new (w:World) (i:Im):Bx w w.heap.size i (w.alloc (.cells i.cells.toArray 33)):=⟨Blk.new w _ _,Mr _,(Mb _ _).alloc (Mr _) _⟩
theorem Bx.step {w wr w':World} {g:Nat} {i:Im} (h:Bx w g i wr) (hb:Bw wr w'):Bx w g i w':=⟨h.blk.below hb,h.new_,h.bel.trans (hb.mono h.bel.size)⟩
theorem Bx.alloc {w wr:World} {g:Nat} {i:Im} (h:Bx w g i wr) (o:Obj):Bx w g i (wr.alloc o):=h.step ((Mb _ _).alloc (Mr _) o)
theorem Bx.cell {w wr:World} {g:Nat} {i:Im} (h:Bx w g i wr):wr.cell? ⟨g,0,none⟩=some (.int .i64 i.p)∧wr.cell? ⟨g,1,none⟩=some (.int .i64 i.v)∧wr.cell? ⟨g,2,none⟩=some (.int .i64 i.h)∧wr.cell? ⟨g,3,none⟩=some (.int .i64 i.m)∧wr.cell? ⟨g,4,none⟩=some (.int .i64 i.f)∧wr.cell? ⟨g,5,none⟩=some (.int .i64 i.s)∧wr.cell? ⟨g,6,none⟩=some (.int .i64 i.r)∧wr.cell? ⟨g,7,none⟩=some (.slice i.A i.n i.c):=
 ⟨h.blk.cell rfl,h.blk.cell rfl,h.blk.cell rfl,h.blk.cell rfl,h.blk.cell rfl,h.blk.cell rfl,h.blk.cell rfl,h.blk.cell rfl⟩
theorem Bx.sz {w wr:World} {g:Nat} {i:Im} (h:Bx w g i wr):w.heap.size<wr.heap.size:=Nat.lt_of_le_of_lt h.new_ h.blk.lt
end ImgA
namespace ImgB
open Kit ImgA
def inn (n l m:Int):Bool:=decide (l≤n∧n≤m)
theorem inn_true {n l m:Int} (h:inn n l m=true):l≤n∧n≤m:=by simpa [inn] using h
theorem inn_false {n l m:Int} (h:inn n l m=false) : ¬(l≤n∧n≤m):=by simpa [inn] using h
theorem within_any (n l m:Int) (w:World):Calls Tryz.prog 134 #[.int .i64 n,.int .i64 l,.int .i64 m] w fun e w'=>e=.returned (.bool (inn n l m))∧w=w':=by
 unfold inn
 by_cases h:l≤n
 ·go_enter Tryz.func134,Tryz.ntmps134
  go_wp2
  go_ret
  exact⟨Q3 (by simp [h]),rfl⟩
 ·have h' : ¬(l≤n):=h
  go_enter Tryz.func134,Tryz.ntmps134
  go_wp2
  go_ret
  exact⟨Q3 (by rw [Bool.eq_iff_iff];simp;omega),rfl⟩
def right (i:Im):Prop:=(0≤i.p∧i.p≤3)∧(1≤i.v∧i.v≤65535)∧(0≤i.h∧i.h≤65535)∧(1≤i.m∧i.m≤16)∧(1≤i.f∧i.f≤32)∧(0≤i.s∧i.s≤15)∧(0≤i.r∧i.r≤15)∧(1≤(i.n:Int)∧(i.n:Int)≤96)
theorem right_any (i:Im) (w:World) (hn:i.n≤9223372036854775807) (b:Bool) (hb:b=true↔right i):Calls Tryz.prog 91 #[i.val] w (Yes w b):=by
 obtain⟨p,v,h,m,f,s,r,A,n,c,xs⟩:=i
 have HB:=Hz (show b=true↔(0≤p∧p≤3)∧(1≤v∧v≤65535)∧(0≤h∧h≤65535)∧(1≤m∧m≤16)∧(1≤f∧f≤32)∧(0≤s∧s≤15)∧(0≤r∧r≤15)∧(1≤(n:Int)∧(n:Int)≤96) from hb)
 clear hb
 have HX:=Hz (Bx.new w ⟨p,v,h,m,f,s,r,A,n,c,xs⟩)
 have HF:=Hz (show ∀q:Prop,(b=true→q)→¬q→b=false from fun q h hp=>by rw [Bool.eq_false_iff];exact fun hb=>hp (h hb))
 show Calls _ _ #[.agg #[.int .i64 p,.int .i64 v,.int .i64 h,.int .i64 m,.int .i64 f,.int .i64 s,.int .i64 r,.slice A n c]] w _
 cases s0:inn p 0 3
 ·have hbf:=Hz (HF.o _ (fun h=>(HB.o.1 h).1) (inn_false s0))
  go_enter Tryz.func91,Tryz.ntmps91
  go_wp2_with (go_at_call 134;refine (within_any _ _ _ _).mono ?_;rintro e w' ⟨rfl,rfl⟩)
  go_ret
  exact⟨by rw [hbf.o];rfl,HX.o.bel⟩
 ·skip
  cases s1:inn v 1 65535
  ·have hbf:=Hz (HF.o _ (fun h=>(HB.o.1 h).2.1) (inn_false s1))
   go_enter Tryz.func91,Tryz.ntmps91
   go_wp2_with (go_at_call 134;refine (within_any _ _ _ _).mono ?_;rintro e w' ⟨rfl,rfl⟩)
   go_ret
   exact⟨by rw [hbf.o];rfl,HX.o.bel⟩
  ·skip
   cases s2:inn h 0 65535
   ·have hbf:=Hz (HF.o _ (fun h=>(HB.o.1 h).2.2.1) (inn_false s2))
    go_enter Tryz.func91,Tryz.ntmps91
    go_wp2_with (go_at_call 134;refine (within_any _ _ _ _).mono ?_;rintro e w' ⟨rfl,rfl⟩)
    go_ret
    exact⟨by rw [hbf.o];rfl,HX.o.bel⟩
   ·skip
    cases s3:inn m 1 16
    ·have hbf:=Hz (HF.o _ (fun h=>(HB.o.1 h).2.2.2.1) (inn_false s3))
     go_enter Tryz.func91,Tryz.ntmps91
     go_wp2_with (go_at_call 134;refine (within_any _ _ _ _).mono ?_;rintro e w' ⟨rfl,rfl⟩)
     go_ret
     exact⟨by rw [hbf.o];rfl,HX.o.bel⟩
    ·skip
     cases s4:inn f 1 32
     ·have hbf:=Hz (HF.o _ (fun h=>(HB.o.1 h).2.2.2.2.1) (inn_false s4))
      go_enter Tryz.func91,Tryz.ntmps91
      go_wp2_with (go_at_call 134;refine (within_any _ _ _ _).mono ?_;rintro e w' ⟨rfl,rfl⟩)
      go_ret
      exact⟨by rw [hbf.o];rfl,HX.o.bel⟩
     ·skip
      cases s5:inn s 0 15
      ·have hbf:=Hz (HF.o _ (fun h=>(HB.o.1 h).2.2.2.2.2.1) (inn_false s5))
       go_enter Tryz.func91,Tryz.ntmps91
       go_wp2_with (go_at_call 134;refine (within_any _ _ _ _).mono ?_;rintro e w' ⟨rfl,rfl⟩)
       go_ret
       exact⟨by rw [hbf.o];rfl,HX.o.bel⟩
      ·skip
       cases s6:inn r 0 15
       ·have hbf:=Hz (HF.o _ (fun h=>(HB.o.1 h).2.2.2.2.2.2.1) (inn_false s6))
        go_enter Tryz.func91,Tryz.ntmps91
        go_wp2_with (go_at_call 134;refine (within_any _ _ _ _).mono ?_;rintro e w' ⟨rfl,rfl⟩)
        go_ret
        exact⟨by rw [hbf.o];rfl,HX.o.bel⟩
       ·skip
        cases s7:inn (n:Int) 1 96
        ·have hbf:=Hz (HF.o _ (fun h=>(HB.o.1 h).2.2.2.2.2.2.2) (inn_false s7))
         go_enter Tryz.func91,Tryz.ntmps91
         go_wp2_with (go_at_call 134;refine (within_any _ _ _ _).mono ?_;rintro e w' ⟨rfl,rfl⟩)
         go_ret
         exact⟨by rw [hbf.o];rfl,HX.o.bel⟩
        ·skip
         have hbt:=Hz (HB.o.2 ⟨inn_true s0,inn_true s1,inn_true s2,inn_true s3,inn_true s4,inn_true s5,inn_true s6,inn_true s7⟩)
         go_enter Tryz.func91,Tryz.ntmps91
         go_wp2_with (go_at_call 134;refine (within_any _ _ _ _).mono ?_;rintro e w' ⟨rfl,rfl⟩)
         go_ret
         exact⟨by rw [hbt.o];rfl,HX.o.bel⟩
theorem Vu (i:Im) (w:World) (hn:i.n≤9223372036854775807) (b:Bool) (hb:b=true↔right i):Calls Tryz.prog 34 #[i.val] w (Yes w b):=by
 obtain⟨p,v,h,m,f,s,r,A,n,c,xs⟩:=i
 have HB:=Hz (show b=true↔(0≤p∧p≤3)∧(1≤v∧v≤65535)∧(0≤h∧h≤65535)∧(1≤m∧m≤16)∧(1≤f∧f≤32)∧(0≤s∧s≤15)∧(0≤r∧r≤15)∧(1≤(n:Int)∧(n:Int)≤96) from hb)
 clear hb
 have HX:=Hz (Bx.new w ⟨p,v,h,m,f,s,r,A,n,c,xs⟩)
 have HF:=Hz (show ∀q:Prop,(b=true→q)→¬q→b=false from fun q h hp=>by rw [Bool.eq_false_iff];exact fun hb=>hp (h hb))
 show Calls _ _ #[.agg #[.int .i64 p,.int .i64 v,.int .i64 h,.int .i64 m,.int .i64 f,.int .i64 s,.int .i64 r,.slice A n c]] w _
 by_cases g0:p<0
 ·have hbf:=Hz (HF.o _ (fun h=>(HB.o.1 h).1) (by omega))
  go_enter Tryz.func34,Tryz.ntmps34
  go_wp2
  go_ret
  exact⟨by rw [hbf.o];rfl,HX.o.bel⟩
 ·skip
  by_cases g1:3<p
  ·have hbf:=Hz (HF.o _ (fun h=>(HB.o.1 h).1) (by omega))
   go_enter Tryz.func34,Tryz.ntmps34
   go_wp2
   go_ret
   exact⟨by rw [hbf.o];rfl,HX.o.bel⟩
  ·skip
   by_cases g2:v<1
   ·have hbf:=Hz (HF.o _ (fun h=>(HB.o.1 h).2.1) (by omega))
    go_enter Tryz.func34,Tryz.ntmps34
    go_wp2
    go_ret
    exact⟨by rw [hbf.o];rfl,HX.o.bel⟩
   ·skip
    by_cases g3:65535<v
    ·have hbf:=Hz (HF.o _ (fun h=>(HB.o.1 h).2.1) (by omega))
     go_enter Tryz.func34,Tryz.ntmps34
     go_wp2
     go_ret
     exact⟨by rw [hbf.o];rfl,HX.o.bel⟩
    ·skip
     by_cases g4:h<0
     ·have hbf:=Hz (HF.o _ (fun h=>(HB.o.1 h).2.2.1) (by omega))
      go_enter Tryz.func34,Tryz.ntmps34
      go_wp2
      go_ret
      exact⟨by rw [hbf.o];rfl,HX.o.bel⟩
     ·skip
      by_cases g5:65535<h
      ·have hbf:=Hz (HF.o _ (fun h=>(HB.o.1 h).2.2.1) (by omega))
       go_enter Tryz.func34,Tryz.ntmps34
       go_wp2
       go_ret
       exact⟨by rw [hbf.o];rfl,HX.o.bel⟩
      ·skip
       by_cases g6:m<1
       ·have hbf:=Hz (HF.o _ (fun h=>(HB.o.1 h).2.2.2.1) (by omega))
        go_enter Tryz.func34,Tryz.ntmps34
        go_wp2
        go_ret
        exact⟨by rw [hbf.o];rfl,HX.o.bel⟩
       ·skip
        by_cases g7:16<m
        ·have hbf:=Hz (HF.o _ (fun h=>(HB.o.1 h).2.2.2.1) (by omega))
         go_enter Tryz.func34,Tryz.ntmps34
         go_wp2
         go_ret
         exact⟨by rw [hbf.o];rfl,HX.o.bel⟩
        ·skip
         by_cases g8:f<1
         ·have hbf:=Hz (HF.o _ (fun h=>(HB.o.1 h).2.2.2.2.1) (by omega))
          go_enter Tryz.func34,Tryz.ntmps34
          go_wp2
          go_ret
          exact⟨by rw [hbf.o];rfl,HX.o.bel⟩
         ·skip
          by_cases g9:32<f
          ·have hbf:=Hz (HF.o _ (fun h=>(HB.o.1 h).2.2.2.2.1) (by omega))
           go_enter Tryz.func34,Tryz.ntmps34
           go_wp2
           go_ret
           exact⟨by rw [hbf.o];rfl,HX.o.bel⟩
          ·skip
           by_cases g10:s<0
           ·have hbf:=Hz (HF.o _ (fun h=>(HB.o.1 h).2.2.2.2.2.1) (by omega))
            go_enter Tryz.func34,Tryz.ntmps34
            go_wp2
            go_ret
            exact⟨by rw [hbf.o];rfl,HX.o.bel⟩
           ·skip
            by_cases g11:15<s
            ·have hbf:=Hz (HF.o _ (fun h=>(HB.o.1 h).2.2.2.2.2.1) (by omega))
             go_enter Tryz.func34,Tryz.ntmps34
             go_wp2
             go_ret
             exact⟨by rw [hbf.o];rfl,HX.o.bel⟩
            ·skip
             by_cases g12:r<0
             ·have hbf:=Hz (HF.o _ (fun h=>(HB.o.1 h).2.2.2.2.2.2.1) (by omega))
              go_enter Tryz.func34,Tryz.ntmps34
              go_wp2
              go_ret
              exact⟨by rw [hbf.o];rfl,HX.o.bel⟩
             ·skip
              by_cases g13:15<r
              ·have hbf:=Hz (HF.o _ (fun h=>(HB.o.1 h).2.2.2.2.2.2.1) (by omega))
               go_enter Tryz.func34,Tryz.ntmps34
               go_wp2
               go_ret
               exact⟨by rw [hbf.o];rfl,HX.o.bel⟩
              ·skip
               by_cases g14 : ¬1≤(n:Int)
               ·have hbf:=Hz (HF.o _ (fun h=>(HB.o.1 h).2.2.2.2.2.2.2) (by omega))
                go_enter Tryz.func34,Tryz.ntmps34
                go_wp2
                go_ret
                exact⟨by rw [hbf.o];rfl,HX.o.bel⟩
               ·skip
                by_cases g15 : ¬(n:Int)≤96
                ·have hbf:=Hz (HF.o _ (fun h=>(HB.o.1 h).2.2.2.2.2.2.2) (by omega))
                 go_enter Tryz.func34,Tryz.ntmps34
                 go_wp2
                 go_ret
                 exact⟨by rw [hbf.o];rfl,HX.o.bel⟩
                ·skip
                 have hbt:=Hz (HB.o.2 (by omega))
                 have k1:1≤(n:Int):=by omega
                 have k2:(n:Int)≤96:=by omega
                 go_enter Tryz.func34,Tryz.ntmps34
                 go_wp2
                 go_ret
                 exact⟨by rw [hbt.o];rfl,HX.o.bel⟩
end ImgB
namespace ImgP
open Kit Byt Mem Beq ShaM ShaE ImgA ImgB ImgS
def nums8 (i:Im):List Nat:=[76,73]++pbn i.p 1++pbn i.v 2++pbn i.h 2++pbn i.m 1++pbn i.f 1++pbn i.s 1++pbn i.r 1
def head (i:Im):List Nat:=nums8 i++(pbn (i.n:Int) 2++i.xs)
theorem qzp (i:Im):(nums8 i).length=11:=by simp only [nums8,Ma,Zh];rfl
theorem J7 (i:Im):(head i).length=13+i.xs.length:=by
 rw [head,Ma,Ma,qzp,Zh]
 show 11+(2+_)=_
 omega
theorem app_lt {xs ys:List Nat} (hx:by256 xs) (hy:by256 ys):by256 (xs++ys):=fun c hc=>by
 rcases List.mem_append.1 hc with h|h
 ·exact hx c h
 ·exact hy c h
theorem nums8_lt (i:Im):by256 (nums8 i):=by
 unfold nums8
 exact app_lt (app_lt (app_lt (app_lt (app_lt (app_lt (app_lt (by intro c hc;simp at hc;omega) (pbn_lt _ _)) (pbn_lt _ _)) (pbn_lt _ _)) (pbn_lt _ _)) (pbn_lt _ _)) (pbn_lt _ _)) (pbn_lt _ _)
theorem head_lt {i:Im} (h:by256 i.xs):by256 (head i):=app_lt (nums8_lt i) (app_lt (pbn_lt _ _) h)
theorem txt_nl {xs:List Nat} {n:Nat} (hn:xs.length=n) (h:n≤65535):NumE.txt (nl xs)=nl (pbn (n:Int) 2++xs):=by
 rw [Xt,Ug]
 unfold NumE.txt
 rw [Ww,hn,Nat.min_eq_left h,Mt (by rw [Ww];omega)]
theorem put_no (i:Im) (w:World) (hn:i.n≤9223372036854775807) (hr : ¬right i):Calls Tryz.prog 52 #[i.val] w fun e w'=>e=.returned (.tuple #[.slice none 0 0,.int .i64 3])∧Bw w w':=by
 have HR:=Hz (fun w'=>right_any i w' hn false (by simpa using hr))
 have HX:=Hz (Bx.new w i)
 clear hr
 obtain⟨p,v,h,m,f,s,r,A,n,c,xs⟩:=i
 show Calls _ _ #[.agg #[.int .i64 p,.int .i64 v,.int .i64 h,.int .i64 m,.int .i64 f,.int .i64 s,.int .i64 r,.slice A n c]] w _
 go_enter Tryz.func52,Tryz.ntmps52
 go_wp2_with fail
 refine (HR.o _).mono ?_
 rintro e w1 ⟨rfl,hb1⟩
 have HX1:=Hz (HX.o.step hb1)
 clear hb1 HX
 go_wp2
 go_ret2
 exact⟨rfl,HX1.o.bel⟩
theorem size1:(Tryz.prog.info? 3).map (·.size)=some 1:=by kernel_rfl
def acc (b:List Int) (m f s r:Int):Nat→List Int
 | 0=>b
 | 1=>b++NumB.putb m 1
 | 2=>b++NumB.putb m 1++NumB.putb f 1
 | 3=>b++NumB.putb m 1++NumB.putb f 1++NumB.putb s 1
 | _=>b++NumB.putb m 1++NumB.putb f 1++NumB.putb s 1++NumB.putb r 1
theorem wd1:NumA.wd 1=1:=rfl
theorem wd2:NumA.wd 2=2:=rfl
theorem fresh_rd {w w':World} {A:Option Addr} {n c:Nat} {xs:List Int} (h:w'.ownsRow w.heap.size 5 1 (.slice A n c) n (NumA.u8s xs)):Rd w' A n c (NumA.u8s xs):=Rd.own h
theorem qzq (i:Im) (w:World) (hT:Tab w) (ho:i.ok w) (hr:right i):Calls Tryz.prog 52 #[i.val] w fun e w'=>∃B m d,e=.returned (.tuple #[.slice B m d,.int .i64 0])∧w'.ownsRow w.heap.size 5 1 (.slice B m d) m (u8n (closed (head i)))∧Bw w w':=by
 have hn:i.xs.length=i.n:=ho.len
 have h96:i.n≤96:=by have:=hr.2.2.2.2.2.2.2;omega
 have HR:=Hz (fun w'=>right_any i w' (by omega) true (by simpa using hr))
 have HX:=Hz (Bx.new w i)
 have HO:=Hz ho
 have HT:=Hz hT
 have HH:=Hz (show nl (head i)=[76,73]++NumB.putb i.p 1++NumB.putb i.v 2++NumB.putb i.h 2++NumB.putb i.m 1++NumB.putb i.f 1++NumB.putb i.s 1++NumB.putb i.r 1++NumE.txt (nl i.xs) from by
  rw [head,Xt,←txt_nl hn (by omega)]
  simp only [nums8,Xt,Ug]
  rfl)
 have HL:=Hz (head_lt (i:=i) ho.byt)
 have HLN:=Hz (show (head i).length≤100000 from by rw [J7];omega)
 have HRD:=Hz (show Rd w i.A i.n i.c (NumA.u8s (nl i.xs)) from by rw [←J3];exact ho.code)
 clear hr ho hT
 generalize head i=hd at *
 obtain⟨p,v,h,m,f,s,r,A,n,c,xs⟩:=i
 dsimp only at HH HRD hn h96
 show Calls _ _ #[.agg #[.int .i64 p,.int .i64 v,.int .i64 h,.int .i64 m,.int .i64 f,.int .i64 s,.int .i64 r,.slice A n c]] w _
 have kc:=fun (w:World) (C:Array Value) (n c:Nat)=>Lib.run_convert_bytes_const (P:=Tryz.prog) w 31 5 C n c Tryz.underlying31 Tryz.underlying5
 go_enter Tryz.func52,Tryz.ntmps52
 go_wp2_with fail
 refine (HR.o _).mono ?_
 rintro e w1 ⟨rfl,hb1⟩
 have HX1:=Hz (HX.o.step hb1)
 clear hb1 HX
 obtain⟨y0,y1,y2,y3,y4,y5,y6,y7⟩:=HX1.o.cell
 dsimp only at y0 y1 y2 y3 y4 y5 y6 y7
 have hsz:=HX1.o.sz
 go_wp2_with fail
 have HX2:=Hz (HX1.o.alloc (.cells #[.int .u8 76,.int .u8 73] 5 (2,3)))
 have HR2:=Hz (show Rd (w1.alloc (.cells #[.int .u8 76,.int .u8 73] 5 (2,3))) (some ⟨w1.heap.size,0,none⟩) 2 2 (NumA.u8s [76,73]) from CrcD.Rd.cells w1 [76,73] 5 (m:=(2,3)) rfl (by omega))
 refine (NumB.put_any _ 2 2 [76,73] p 1 _ HR2.o (by omega)).mono ?_
 rintro e w3 ⟨A3,n3,c3,hn3,rfl,ho3,hb3⟩
 have HX3:=Hz (HX2.o.step hb3)
 have HR3:=Hz (fresh_rd ho3)
 clear hb3 ho3 hn3 y0 y1 y2 y3 y4 y5 y6 y7 HX1 HX2 HR2 hsz
 obtain⟨y0,y1,y2,y3,y4,y5,y6,y7⟩:=HX3.o.cell
 dsimp only at y0 y1 y2 y3 y4 y5 y6 y7
 go_wp2_with fail
 refine (NumB.put_any A3 n3 c3 ([76,73]++NumB.putb p 1) v 2 _ HR3.o (by have:=NumA.Rd.bytes HR3.o;simp only [Ma,NumB.Jw,wd1,wd2,List.length_cons,List.length_nil] at this;omega)).mono ?_
 rintro e w4 ⟨A4,n4,c4,hn4,rfl,ho4,hb4⟩
 have HX4:=Hz (HX3.o.step hb4)
 have HR4:=Hz (fresh_rd ho4)
 clear hb4 ho4 hn4 y0 y1 y2 y3 y4 y5 y6 y7 HX3 HR3
 obtain⟨y0,y1,y2,y3,y4,y5,y6,y7⟩:=HX4.o.cell
 dsimp only at y0 y1 y2 y3 y4 y5 y6 y7
 go_wp2_with fail
 refine (NumB.put_any A4 n4 c4 ([76,73]++NumB.putb p 1++NumB.putb v 2) h 2 _ HR4.o (by have:=NumA.Rd.bytes HR4.o;simp only [Ma,NumB.Jw,wd1,wd2,List.length_cons,List.length_nil] at this;omega)).mono ?_
 rintro e w5 ⟨A5,n5,c5,hn5,rfl,ho5,hb5⟩
 have HX5:=Hz (HX4.o.step hb5)
 have HR5:=Hz (fresh_rd ho5)
 clear hb5 ho5 hn5 y0 y1 y2 y3 y4 y5 y6 y7 HX4 HR4
 obtain⟨y0,y1,y2,y3,y4,y5,y6,y7⟩:=HX5.o.cell
 dsimp only at y0 y1 y2 y3 y4 y5 y6 y7
 obtain⟨L,hL⟩:∃L,L=[76,73]++NumB.putb p 1++NumB.putb v 2++NumB.putb h 2:=⟨_,rfl⟩
 rw [←hL] at HR5
 have HLL:=Hz (show L.length=7 from by rw [hL];simp only [Ma,NumB.Jw,wd1,wd2,List.length_cons,List.length_nil])
 have HHL:=Hz (show nl hd=acc L m f s r 4++NumE.txt (nl xs) from by rw [HH.o,hL];rfl)
 have hn5:n5=7:=by have:=NumA.Rd.bytes HR5.o;have:=HLL.o;omega
 have HN5:=Hz hn5
 clear hL HH hn5
 go_wp2_with fail
 clear y0 y1 y2 y3 y4 y5 y6 y7
 go_loopw [4,6,32] (fun o q i wr=>∃(k:Nat) (B:Option Addr) (n' d:Nat),k≤4∧i=.int .i64 k∧o=.slice B n' d∧n'≤7+k∧Hid (Rd wr B n' d (NumA.u8s (acc L m f s r k)))∧Hid (Bx w w.heap.size ⟨p,v,h,m,f,s,r,A,n,c,xs⟩ wr)) (fun _ _ i _=>4-(intOf i).toNat)
 case atStart=>exact⟨0,A5,n5,c5,by omega,rfl,rfl,by have:=HN5.o;omega,HR5,HX5⟩
 case round=>
  obtain⟨k,B,n',d,hk,rfl,rfl,hnk,HRk,HXk⟩:=hrel
  match k,hk with
  | 0,_=>
    have HC:=Hz (NumB.put_any B n' d (acc L m f s r 0) m 1 wr HRk.o (by omega))
    have hix:∀w,(Instr.index 173 (.agg #[.int .i64 m,.int .i64 f,.int .i64 s,.int .i64 r]) (.int .i64 0)).run Tryz.prog w=.ok (.int .i64 m) w:=fun w=>Jq (k:=0) (xs:=[.int .i64 m,.int .i64 f,.int .i64 s,.int .i64 r]) Tryz.underlying173 ⟨_,Tryz.underlying3⟩ size1 (by omega) rfl w
    go_wp2_with (go_at_call 92;refine HC.o.mono ?_;rintro e w6 ⟨A6,n6,c6,hn6,rfl,ho6,hb6⟩)
    have HN6:=Hz (show n6≤7+1 from by have h1:=hn6.o;have h2:=NumA.Rd.bytes HRk.o;rw [Ma,NumB.Jw,wd1] at h1;omega)
    clear hn6
    go_roundw
    case rel=>exact⟨1,A6,n6,c6,by omega,rfl,rfl,HN6.o,Hz (fresh_rd ho6),Hz (HXk.o.step hb6)⟩
    case measure=>simp [intOf]
  | 1,_=>
    have HC:=Hz (NumB.put_any B n' d (acc L m f s r 1) f 1 wr HRk.o (by omega))
    have hix:∀w,(Instr.index 173 (.agg #[.int .i64 m,.int .i64 f,.int .i64 s,.int .i64 r]) (.int .i64 1)).run Tryz.prog w=.ok (.int .i64 f) w:=fun w=>Jq (k:=1) (xs:=[.int .i64 m,.int .i64 f,.int .i64 s,.int .i64 r]) Tryz.underlying173 ⟨_,Tryz.underlying3⟩ size1 (by omega) rfl w
    go_wp2_with (go_at_call 92;refine HC.o.mono ?_;rintro e w6 ⟨A6,n6,c6,hn6,rfl,ho6,hb6⟩)
    have HN6:=Hz (show n6≤7+2 from by have h1:=hn6.o;have h2:=NumA.Rd.bytes HRk.o;rw [Ma,NumB.Jw,wd1] at h1;omega)
    clear hn6
    go_roundw
    case rel=>exact⟨2,A6,n6,c6,by omega,rfl,rfl,HN6.o,Hz (fresh_rd ho6),Hz (HXk.o.step hb6)⟩
    case measure=>simp [intOf]
  | 2,_=>
    have HC:=Hz (NumB.put_any B n' d (acc L m f s r 2) s 1 wr HRk.o (by omega))
    have hix:∀w,(Instr.index 173 (.agg #[.int .i64 m,.int .i64 f,.int .i64 s,.int .i64 r]) (.int .i64 2)).run Tryz.prog w=.ok (.int .i64 s) w:=fun w=>Jq (k:=2) (xs:=[.int .i64 m,.int .i64 f,.int .i64 s,.int .i64 r]) Tryz.underlying173 ⟨_,Tryz.underlying3⟩ size1 (by omega) rfl w
    go_wp2_with (go_at_call 92;refine HC.o.mono ?_;rintro e w6 ⟨A6,n6,c6,hn6,rfl,ho6,hb6⟩)
    have HN6:=Hz (show n6≤7+3 from by have h1:=hn6.o;have h2:=NumA.Rd.bytes HRk.o;rw [Ma,NumB.Jw,wd1] at h1;omega)
    clear hn6
    go_roundw
    case rel=>exact⟨3,A6,n6,c6,by omega,rfl,rfl,HN6.o,Hz (fresh_rd ho6),Hz (HXk.o.step hb6)⟩
    case measure=>simp [intOf]
  | 3,_=>
    have HC:=Hz (NumB.put_any B n' d (acc L m f s r 3) r 1 wr HRk.o (by omega))
    have hix:∀w,(Instr.index 173 (.agg #[.int .i64 m,.int .i64 f,.int .i64 s,.int .i64 r]) (.int .i64 3)).run Tryz.prog w=.ok (.int .i64 r) w:=fun w=>Jq (k:=3) (xs:=[.int .i64 m,.int .i64 f,.int .i64 s,.int .i64 r]) Tryz.underlying173 ⟨_,Tryz.underlying3⟩ size1 (by omega) rfl w
    go_wp2_with (go_at_call 92;refine HC.o.mono ?_;rintro e w6 ⟨A6,n6,c6,hn6,rfl,ho6,hb6⟩)
    have HN6:=Hz (show n6≤7+4 from by have h1:=hn6.o;have h2:=NumA.Rd.bytes HRk.o;rw [Ma,NumB.Jw,wd1] at h1;omega)
    clear hn6
    go_roundw
    case rel=>exact⟨4,A6,n6,c6,by omega,rfl,rfl,HN6.o,Hz (fresh_rd ho6),Hz (HXk.o.step hb6)⟩
    case measure=>simp [intOf]
  | 4,_=>
    obtain⟨y0,y1,y2,y3,y4,y5,y6,y7⟩:=HXk.o.cell
    dsimp only at y0 y1 y2 y3 y4 y5 y6 y7
    have HTX:=Hz (NumE.Gu B n' d (acc L m f s r 4) A n c (nl xs) wr HRk.o (HRD.o.below HXk.o.bel) (by omega))
    go_wp2_with fail
    refine HTX.o.mono ?_
    rintro e w7 ⟨A7,n7,c7,hn7,rfl,ho7,hb7⟩
    have HX7:=Hz (HXk.o.step hb7)
    have HR7:=Hz (show Rd w7 A7 n7 c7 (u8n hd) from by rw [J3,HHL.o];exact fresh_rd ho7)
    clear hn7 ho7 hb7 y0 y1 y2 y3 y4 y5 y6 y7
    have HSE:=Hz (sealed_any A7 n7 c7 hd w7 (HT.o.below HX7.o.bel HT.o.1) HR7.o HL.o HLN.o)
    go_wp2_with fail
    refine HSE.o.mono ?_
    rintro e w8 ⟨B8,m8,d8,rfl,ho8,hb8⟩
    have HX8:=Hz (HX7.o.step hb8)
    have HO8:=Hz (own_mono ho8 HX7.o.bel.size)
    clear ho8 hb8
    go_wp2
    go_ret2
    exact⟨B8,m8,d8,rfl,HO8.o,HX8.o.bel⟩
end ImgP
namespace TabR
open Kit NumA
theorem end_ok (b:Nat) (w:World) (h:St w b [] 0) :
 Calls Tryz.prog 177 #[.pointer (some ⟨b,0,none⟩)] w fun e w'=>e=.returned (.int .i64 0)∧w=w':=by
 obtain⟨A,n,c,h,hr0,_⟩:=h
 have h0:=two0 h
 have h1:=two1 h
 obtain rfl:n=0:=by have:=Rd.bytes hr0;simpa using this.symm
 clear h hr0
 go_enter Tryz.func177,Tryz.ntmps177
 go_wp2
 go_ret
 exact⟨rfl,rfl⟩
theorem qzr (b:Nat) (xs:List Int) (e:Int) (w:World) (h:St w b xs e) (he:(e != 0)=true) :
 Calls Tryz.prog 177 #[.pointer (some ⟨b,0,none⟩)] w fun f w'=>f=.returned (.int .i64 e)∧w=w':=by
 obtain⟨A,n,c,h,hr0,_⟩:=h
 have h1:=two1 h
 clear h hr0
 go_enter Tryz.func177,Tryz.ntmps177
 go_wp2
 go_ret
 exact⟨rfl,rfl⟩
theorem qx0 (b:Nat) (xs:List Int) (w:World) (h:St w b xs 0) (hx:0<xs.length) :
 Calls Tryz.prog 177 #[.pointer (some ⟨b,0,none⟩)] w fun e w'=>e=.returned (.int .i64 2)∧w=w':=by
 obtain⟨A,n,c,h,hr0,_⟩:=h
 have h0:=two0 h
 have h1:=two1 h
 have hn:0<n:=by have:=Rd.bytes hr0;omega
 have hn2:n≤9223372036854775807:=by have:=hr0.2.1;have:=hr0.2.2.1;omega
 clear h hr0
 go_enter Tryz.func177,Tryz.ntmps177
 go_wp2
 go_ret
 exact⟨rfl,rfl⟩
theorem end_any (b:Nat) (xs:List Int) (e:Int) (w:World) (h:St w b xs e) :
 Calls Tryz.prog 177 #[.pointer (some ⟨b,0,none⟩)] w fun f w'=>f=.returned (.int .i64 (endN xs e))∧w=w':=by
 unfold endN
 by_cases he:e=0
 ·subst he
  rw [if_neg (by simp)]
  cases xs with
  | nil=>rw [if_pos rfl];exact end_ok b w h
  | cons x xs=>rw [if_neg (by simp)];exact qx0 b _ w h (by simp)
 ·rw [if_pos he]
  exact qzr b xs e w h (by simpa using he)
end TabR
end Go.Proofs.YtpidbddllnidhaaGreatDoor
