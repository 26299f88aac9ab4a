/- The parts that this claim uses of: ShaE · ShaF · ShaG · ShaH. Conditions: those that each law names. -/
import Derived.Test.YtkepomnbhnnliaaGreatDoorK07
set_option maxRecDepth 100000
set_option maxHeartbeats 12800000
namespace Go.Proofs.YtkepomnbhnnliaaGreatDoor
namespace ShaE
open Go.RowKit Kit Byt ShaM ShaA ShaB ShaC ShaK ShaD
def Tab (w:World):Prop:=0<w.heap.size∧∀i,i<64→w.cell? ⟨0,i,none⟩=some (.int .u32 (KT.getD i 0:Nat))
theorem Tab.below {B:Nat} {w w':World} (h:Tab w) (hb:Below B w w') (hB:0<B):Tab w':=
 ⟨by have:=h.1;have:=hb.size;omega,fun i hi=>(hb.cell (p:=⟨0,i,none⟩) hB).trans (h.2 i hi)⟩
def wl (v:W8):List Value:=u32n v.list
theorem wl_ws (v:W8):(wl v).toArray=ws v:=rfl
theorem wl_len (v:W8):(wl v).length=8:=rfl
theorem KT_at (k:Nat):KT.getD k 0<4294967296:=by
 rw [List.getD_eq_getElem?_getD]
 by_cases hk:k<KT.length
 ·rw [List.getElem?_eq_getElem hk]
  exact KT_lt hk
 ·rw [List.getElem?_eq_none (by omega)]
  decide
theorem size_u32:(Tryz.prog.info? 224).map (·.size)=some 1:=by kernel_rfl
def Kept2 (w:World) (v:W8) (s:List Nat) (k:Nat) (wr:World):Prop:=
 Blk wr w.heap.size 226 (wl v)∧Blk wr (w.heap.size+1+1) 226 (wl ⟨0,0,0,0,0,0,0,0⟩)∧Blk wr (w.heap.size+1+1+1) 226 (wl (rds v s k))∧Below w.heap.size w wr
theorem size_block:(Tryz.prog.info? 228).map (·.size)=some 64:=by kernel_rfl
theorem Blk_at {w:World} {n:Nat} {t:TypeId} {B:Array Value} {xs:List Value} (hB:B=xs.toArray) (h:n=w.heap.size):Blk (w.alloc (.cells B t)) n t xs:=by
 subst hB
 exact heap_alloc_at h
theorem begin4 {w w1:World} {v:W8} {s:List Nat} {B:Array Value} (hb:Below ((((w.alloc (.cells (ws v) 226)).alloc (.cells B 228)).alloc (.cells (ws ⟨0,0,0,0,0,0,0,0⟩) 226)).alloc (.cells (ws v) 226)).heap.size
 ((((w.alloc (.cells (ws v) 226)).alloc (.cells B 228)).alloc (.cells (ws ⟨0,0,0,0,0,0,0,0⟩) 226)).alloc (.cells (ws v) 226)) w1):Kept2 w v s 0 w1:=by
 refine⟨Blk.below ?_ hb,Blk.below ?_ hb,Blk.below ?_ hb,(((((Below.refl _ _).alloc (Nat.le_refl _) _).alloc (by simp) _).alloc (by simp;omega) _).alloc (by simp;omega) _).trans (hb.mono (by simp;omega))⟩
 ·exact alloc_old (alloc_old (alloc_old (heap_alloc_new w _)))
 ·exact alloc_old (heap_alloc_at (by simp))
 ·exact heap_alloc_at (by simp)
theorem rnd_mod (v:W8) (n:Nat):rnd v (n%4294967296)=rnd v n:=by
 have h1:(n%4294967296+low v+high v)%4294967296=(n+low v+high v)%4294967296:=by omega
 have h2:(v.d+(n%4294967296+low v))%4294967296=(v.d+(n+low v))%4294967296:=by omega
 unfold rnd
 rw [h1,h2]
theorem behind_any (v:W8) (b:List Nat) (w:World) (hT:Tab w) (hv:v.ok) (hl:b.length=64) (hb:by256 b):Calls Tryz.prog 199 #[.agg (ws v),.agg (u8n b).toArray] w fun e w'=>e=.returned (.agg (ws (blk v b)))∧Below w.heap.size w w':=by
 obtain⟨B,hB⟩:∃B:Array Value,B=(u8n b).toArray:=⟨_,rfl⟩
 obtain⟨S,hS⟩:∃S:List Nat,S=sch b 64:=⟨_,rfl⟩
 obtain⟨X,hX⟩:∃X:Array Value,X=(u32n S).toArray:=⟨_,rfl⟩
 have HT:=Hz hT
 have HB:=Hz hB
 have HX:=Hz hX
 have hsp:=fun w=>spread_any b w hl hb
 rw [←hS,←hX] at hsp
 rw [←hB]
 have hsl:=sch_len b 64
 have hst:=sch_at hb 64
 have hi:=Hz (show (Tryz.prog.info? 228).map (·.size)=some (u8n b).length by rw [u8n_len,hl];exact size_block)
 obtain⟨Z,hZ⟩:∃Z:Array Value,Z=ws (blk v b):=⟨_,rfl⟩
 rw [←hZ]
 have hz:Hid (Z=(wl (plus v (rds v S 64))).toArray):=Hz (by rw [hZ,hS,blk,wl_ws])
 rw [←hS] at hsl hst
 clear hB hT hX hS hZ
 have hv':=hv
 obtain⟨a,b',c,d,e,f,g,h⟩:=v
 unfold ws
 go_enter Tryz.func199,Tryz.ntmps199
 go_wp2_with (first
  | (refine wpList_load_blk rfl 228 _ rfl (w.heap.size+1) rfl (alloc_old (alloc_old (Blk_at HB.out (by simp)))) Tryz.underlying228 rfl hi.out ?_)
  | (go_at_call 227;refine (hsp _).mono ?_;rintro e1 w1 ⟨rfl,hb1⟩))
 have hK:Hid (Kept2 w ⟨a,b',c,d,e,f,g,h⟩ S 0 w1):=Hz (begin4 hb1)
 clear hsp hi HB
 go_loopw [11,6,7] (fun i _ _ wr=>∃k:Nat,k≤64∧i=.int .i64 k∧Hid (Kept2 w ⟨a,b',c,d,e,f,g,h⟩ S k wr)) (fun i _ _ _=>64-(intOf i).toNat)
 case atStart=>exact⟨0,by omega,rfl,hK⟩
 case round=>
  obtain⟨k,hk,rfl,hT⟩:=hrel
  clear hK
  by_cases hlt:k<64
  ·obtain⟨B0,B2,B3,hbel⟩:=hT.out
   have hcell:=(HT.out.below hbel HT.out.1).2 k hlt
   have hsn:Hid (rds ⟨a,b',c,d,e,f,g,h⟩ S (k+1)=rnd (rds ⟨a,b',c,d,e,f,g,h⟩ S k) ((KT.getD k 0+S.getD k 0)%4294967296)):=Hz (by rw [rnd_mod,rds])
   have hu:=rds_ok hv' S k
   have hix:=run_index_one (P:=Tryz.prog) (k:=k) (xs:=u32n S) (v:=.int .u32 (S.getD k 0:Nat)) Tryz.underlying279 ⟨_,Tryz.underlying224⟩ size_u32 hlt (by simp [u32n,hsl,hlt])
   rw [←HX.out] at hix
   have hx:=KT_at k
   have hy:=hst k
   generalize rds ⟨a,b',c,d,e,f,g,h⟩ S k=u at *
   generalize KT.getD k 0=x at *
   generalize S.getD k 0=y at *
   obtain⟨z,hz'⟩:∃z,z=(x+y)%4294967296:=⟨_,rfl⟩
   rw [←hz'] at hsn
   have hw:IntKind.u32.wrap ((x:Int)+(y:Int))=(z:Int):=by rw [IntKind.wrap_u32];omega
   have hw2:((x:Int)+(y:Int))%4294967296=(z:Int):=by omega
   have hzl:z<4294967296:=by omega
   obtain⟨Y,hY⟩:∃Y:Array Value,Y=(wl (rnd u z)).toArray:=⟨_,rfl⟩
   have hr:=fun w=>round_any u z w hu hzl
   rw [←wl_ws (rnd u z),←hY] at hr
   have HY:=Hz hY
   have HB3:=Hz B3
   have hK2:=Hz (And.intro B0 (And.intro B2 hbel))
   obtain⟨c0,c1,c2,c3,c4,c5,c6,c7⟩:=cells8 (show wr.heap[w.heap.size+1+1+1]?=some (.cells #[.int .u32 (u.a:Nat),.int .u32 (u.b:Nat),.int .u32 (u.c:Nat),.int .u32 (u.d:Nat),.int .u32 (u.e:Nat),.int .u32 (u.f:Nat),.int .u32 (u.g:Nat),.int .u32 (u.h:Nat)] 226 (0,0)) from B3)
   unfold ws at hr
   clear hY hz' B0 B2 B3 hbel hT hst
   have r0:(0:Int)≤(k:Int):=by omega
   have r1:(k:Int)<64:=by omega
   have hn:(k:Int).toNat=k:=by omega
   go_wp2
   go_still_tail 6,(by kernel_rfl)
   change wpList _ _ _ _ _ wr.drew
   clear c0 c1 c2 c3 c4 c5 c6 c7 hcell hix
   go_wp2_with (first
    | (go_at_call 228;refine (hr _).mono ?_;rintro e1 w2 ⟨rfl,hb2⟩)
    | (refine wpList_store_blk rfl 226 (.tmp 5) (.tmp 21) rfl (w.heap.size+1+1+1) rfl (wl (rnd u z)) (congrArg Value.agg HY.out) (Blk.below (w:=wr.drew) HB3.out hb2) (by rw [wl_len,wl_len]) (by rw [wl_len];exact size_words) (u32n_one _) ?_;intro w3 hB3 ho3))
   have hT3:Hid (Kept2 w ⟨a,b',c,d,e,f,g,h⟩ S (k+1) w3):=Hz (by
    obtain⟨B0,B2,hbel⟩:=hK2.out
    have hb2':Below wr.heap.size wr w2:=((Below.refl wr.heap.size wr).drew).trans hb2
    refine⟨ho3.out.blk (B0.below hb2') (by omega),ho3.out.blk (B2.below hb2') (by omega),?_,ho3.out.below (hbel.trans (hb2'.mono hbel.size)) (by omega) (by have:=hb2'.size;have:=hbel.size;omega)⟩
    rw [hsn.out]
    exact hB3.out)
   clear hB3 ho3 hb2 hK2 HB3 HY hr
   go_roundw
   case rel=>exact⟨k+1,by omega,by go_num,hT3⟩
   case measure=>simp [intOf];omega
  ·obtain rfl:k=64:=by omega
   obtain⟨B0',B2',B3',hbel⟩:=hT.out
   have B0:=Hz B0'
   have B2:=Hz B2'
   have B3:=Hz B3'
   have hsz:=hbel.size
   clear B0' B2' B3' hT
   generalize rds ⟨a,b',c,d,e,f,g,h⟩ S 64=u at *
   have hpl:=plus_any ⟨a,b',c,d,e,f,g,h⟩ u
   rw [←wl_ws,←wl_ws,←wl_ws,←hz.out] at hpl
   go_wp2_with (first
    | (refine wpList_load_blk rfl 226 (.tmp 2) rfl w.heap.size rfl B0.out Tryz.underlying226 rfl (by rw [wl_len];exact size_words) ?_)
    | (refine wpList_load_blk rfl 226 (.tmp 5) rfl (w.heap.size+1+1+1) rfl B3.out Tryz.underlying226 rfl (by rw [wl_len];exact size_words) ?_)
    | (go_at_call 231;refine (hpl _).mono ?_;rintro e1 w2 ⟨rfl,hb2⟩)
    | (refine wpList_store_blk rfl 226 (.tmp 4) (.tmp 25) rfl (w.heap.size+1+1) rfl (wl (plus ⟨a,b',c,d,e,f,g,h⟩ u)) (congrArg Value.agg hz.out) (Blk.below B2.out hb2) (by rw [wl_len,wl_len]) (by rw [wl_len];exact size_words) (u32n_one _) ?_;intro w3 hB3 ho3))
   refine ret_row Tryz.results199 rfl rfl hB3.out Tryz.underlying226 rfl (by rw [wl_ws,ws_size];exact size_words) ⟨by rw [hz.out],ho3.out.below (hbel.trans (hb2.mono hbel.size)) (by omega) (by have:=hb2.size;omega)⟩
end ShaE
namespace ShaF
open Go.RowKit Kit Byt ShaM ShaA ShaB ShaC ShaK ShaD ShaE
theorem zero32 (w:World):(zeroValue 232).run Tryz.prog w=.ok (.agg (u8n (List.replicate 32 0)).toArray) w:=by kernel_rfl
theorem size_w32:(Tryz.prog.info? 232).map (·.size)=some 32:=by kernel_rfl
theorem size_u32:(Tryz.prog.info? 224).map (·.size)=some 1:=by kernel_rfl
theorem u8n_set (xs:List Nat) (k y:Nat):(u8n xs).set k (.int .u8 (y:Int))=u8n (xs.set k y):=by simp [u8n,List.map_set]
def out (v:W8) (k:Nat):List Nat:=(v.list.take k).flatMap by4++List.replicate (32-4*k) 0
theorem flat4 (l:List Nat):(l.flatMap by4).length=4*l.length:=by
 induction l with
 | nil=>rfl
 | cons a l ih=>
   rw [List.flatMap_cons,List.length_append,ih,List.length_cons]
   show 4+4*l.length=4*(l.length+1)
   omega
theorem out_len {v:W8} {k:Nat} (h:k≤8):(out v k).length=32:=by
 have:(v.list.take k).length=k:=by simp [W8.list];omega
 rw [out,List.length_append,flat4,this,List.length_replicate];omega
theorem set4 (p:List Nat) (n y0 y1 y2 y3:Nat):((((p++List.replicate (n+4) 0).set p.length y0).set (p.length+1) y1).set (p.length+2) y2).set (p.length+3) y3=p++[y0,y1,y2,y3]++List.replicate n 0:=by
 have e:List.replicate (n+4) (0:Nat)=0 :: 0 :: 0 :: 0 :: List.replicate n 0:=by simp [List.replicate_succ]
 rw [e]
 simp [List.set_append]
theorem out_set {v:W8} {k:Nat} (h:k<8) {y0 y1 y2 y3:Nat} (hy:[y0,y1,y2,y3]=by4 (v.list.getD k 0)):((((out v k).set (4*k) y0).set (4*k+1) y1).set (4*k+2) y2).set (4*k+3) y3=out v (k+1):=by
 have hl:v.list.length=8:=rfl
 have h1:((v.list.take k).flatMap by4).length=4*k:=by rw [flat4];simp [hl];omega
 have e:32-4*k=(32-4*(k+1))+4:=by omega
 have h2:v.list.take (k+1)=v.list.take k++[v.list.getD k 0]:=by
  rw [List.take_succ_eq_append_getElem (by omega),List.getD_eq_getElem?_getD,List.getElem?_eq_getElem (by omega)]
  rfl
 unfold out
 rw [e,←h1,set4,h2,List.flatMap_append,hy]
 simp
theorem out_set4 (v:W8) {k:Nat} (h:k<8):((((out v k).set (4*k) (v.list.getD k 0/16777216%256)).set (4*k+1) (v.list.getD k 0/65536%256)).set (4*k+2) (v.list.getD k 0/256%256)).set (4*k+3) (v.list.getD k 0%256)=out v (k+1):=out_set h rfl
theorem out_all (v:W8):out v 8=bys v:=by simp [out,bys,W8.list]
def Kept3 (w:World) (v:W8) (k:Nat) (wr:World):Prop:=
 Blk wr (w.heap.size+1) 232 (u8n (List.replicate 32 0))∧Blk wr (w.heap.size+1+1) 232 (u8n (out v k))∧Below w.heap.size w wr
theorem begin3 (w:World) (v:W8) {Z:Array Value} (hZ:Z=(u8n (List.replicate 32 0)).toArray) :
 Kept3 w v 0 (((w.alloc (.cells (ws v) 226)).alloc (.cells Z 232)).alloc (.cells Z 232)):=by
 subst hZ
 exact⟨alloc_old (heap_alloc_at (by simp)),heap_alloc_at (by simp),(((Below.refl _ _).alloc (Nat.le_refl _) _).alloc (by simp) _).alloc (by simp;omega) _⟩
theorem bytes_any (v:W8) (w:World) (hv:v.ok):Calls Tryz.prog 201 #[.agg (ws v)] w fun e w'=>e=.returned (.agg (u8n (bys v)).toArray)∧Below w.heap.size w w':=by
 have hz:=zero32
 obtain⟨Z,hZ⟩:∃Z:Array Value,Z=(u8n (List.replicate 32 0)).toArray:=⟨_,rfl⟩
 simp only [←hZ] at hz
 have H0:Hid (Kept3 w v 0 _):=Hz (begin3 w v hZ)
 have hia:=fun (k:Nat) (hk:k<8)=>run_index_one (P:=Tryz.prog) (k:=k) (xs:=wl v) (v:=.int .u32 (v.list.getD k 0:Nat)) Tryz.underlying284 ⟨_,Tryz.underlying224⟩ size_u32 hk (by rw [wl,u32n,List.getElem?_map,List.getElem?_eq_getElem (show k<v.list.length from hk)];simp [List.getD_eq_getElem?_getD,List.getElem?_eq_getElem (show k<v.list.length from hk)])
 have HI:=Hz hia
 have hlt8:∀k:Nat,v.list.getD k 0<4294967296:=by
  intro k
  obtain⟨ha,hb,hc,hd,he,hf,hg,hh⟩:=hv
  match k with
  | 0=>exact ha
  | 1=>exact hb
  | 2=>exact hc
  | 3=>exact hd
  | 4=>exact he
  | 5=>exact hf
  | 6=>exact hg
  | 7=>exact hh
  | n+8=>simp [W8.list]
 clear hZ hia
 obtain⟨Y,hY⟩:∃Y:Array Value,Y=(u8n (bys v)).toArray:=⟨_,rfl⟩
 rw [←hY]
 have hi:=Hz (show (Tryz.prog.info? 232).map (·.size)=some (u8n (out v 8)).length by rw [u8n_len,out_len (by omega)];exact size_w32)
 have HY:Hid (Y=(u8n (out v 8)).toArray):=Hz (by rw [hY,out_all])
 rw [wl_ws] at HI
 clear hY
 unfold ws at *
 obtain⟨a,b,c,d,e,f,g,h⟩:=v
 go_enter Tryz.func201,Tryz.ntmps201
 go_wp2
 clear hz
 go_loopw [23,4,5] (fun i _ _ wr=>∃k:Nat,k≤8∧i=.int .i64 k∧Hid (Kept3 w ⟨a,b,c,d,e,f,g,h⟩ k wr)) (fun i _ _ _=>8-(intOf i).toNat)
 case atStart=>exact⟨0,by omega,rfl,H0⟩
 case round=>
  obtain⟨k,hk,rfl,hT⟩:=hrel
  clear H0
  by_cases hlt:k<8
  ·obtain⟨B1,B2,hbel⟩:=hT.out
   have c0:=B2.byte (i:=4*k) (by rw [out_len (by omega)];omega)
   have c1:=B2.byte (i:=4*k+1) (by rw [out_len (by omega)];omega)
   have c2:=B2.byte (i:=4*k+2) (by rw [out_len (by omega)];omega)
   have c3:=B2.byte (i:=4*k+3) (by rw [out_len (by omega)];omega)
   have f0:=B2.frozen (4*k)
   have f1:=B2.frozen (4*k+1)
   have f2:=B2.frozen (4*k+2)
   have f3:=B2.frozen (4*k+3)
   have hix:=HI.out k hlt
   have hnl:=hlt8 k
   have hS4:=Hz (out_set4 ⟨a,b,c,d,e,f,g,h⟩ hlt)
   have hB:=Hz (And.intro B1 (And.intro B2 hbel))
   clear B1 B2 hbel hT
   generalize (W8.mk a b c d e f g h).list.getD k 0=n at *
   go_wp2
   go_roundw
   case rel=>
    refine⟨k+1,by omega,by go_num,Hz ?_⟩
    obtain⟨B1,B2,hbel⟩:=hB.out
    have e0:(n:Int)/16777216=((n/16777216%256:Nat):Int):=by omega
    have e1:(n:Int)/65536%256=((n/65536%256:Nat):Int):=by omega
    have e2:(n:Int)/256%256=((n/256%256:Nat):Int):=by omega
    have e3:(n:Int)%256=((n%256:Nat):Int):=by omega
    rw [e0,e1,e2,e3]
    refine⟨(((B1.far (by simp) _).far (by simp) _).far (by simp) _).far (by simp) _,?_,(((hbel.setCell (by simp;omega) _).setCell (by simp;omega) _).setCell (by simp;omega) _).setCell (by simp;omega) _⟩
    have h5:=(((B2.set (4*k) (.int .u8 ((n/16777216%256:Nat):Int))).set (4*k+1) (.int .u8 ((n/65536%256:Nat):Int))).set (4*k+2) (.int .u8 ((n/256%256:Nat):Int))).set (4*k+3) (.int .u8 ((n%256:Nat):Int))
    rw [u8n_set,u8n_set,u8n_set,u8n_set,hS4.out] at h5
    exact h5
   case measure=>simp [intOf];omega
  ·obtain rfl:k=8:=by omega
   obtain⟨B1',B2',hbel⟩:=hT.out
   have B1:=Hz B1'
   have B2:=Hz B2'
   have hsz:=hbel.size
   clear B1' B2' hT hlt8
   have hl8:=Hz (out_len (v:=⟨a,b,c,d,e,f,g,h⟩) (k:=8) (by omega))
   generalize out ⟨a,b,c,d,e,f,g,h⟩ 8=O at *
   go_wp2_with (first
    | (refine wpList_load_blk rfl 232 (.tmp 3) rfl (w.heap.size+1+1) rfl B2.out Tryz.underlying232 rfl hi.out ?_)
    | (refine wpList_store_blk rfl 232 (.tmp 2) (.tmp 54) rfl (w.heap.size+1) rfl (u8n O) rfl B1.out (by rw [u8n_len,u8n_len,hl8.out,List.length_replicate]) hi.out (u8n_one _) ?_;intro w3 hB3 ho3))
   exact ret_row Tryz.results201 rfl rfl hB3.out Tryz.underlying232 rfl (by simpa using hi.out) ⟨by rw [HY.out],ho3.out.below hbel (by omega) (by omega)⟩
end ShaF
namespace ShaG
open Go.RowKit Kit Byt ShaM ShaA ShaB ShaC ShaK ShaD ShaE ShaF
theorem Rd.cells (w:World) (xs:List Nat) (e:TypeId) {m:Nat×Nat} {n:Nat} (hn:xs.length=n) (h63:n≤9223372036854775807):Rd (w.alloc (.cells (u8n xs).toArray e m)) (some ⟨w.heap.size,0,none⟩) n n (u8n xs):=by
 refine⟨by rw [u8n_len,hn],by omega,by omega,fun _=>⟨_,_,rfl,by simp,fun j u hu=>?_⟩⟩
 rw [Nat.zero_add,World.cell?_alloc_mark]
 simpa using hu
theorem Rd.one (w:World) (x:Nat) (e:TypeId) {m:Nat×Nat}:Rd (w.alloc (.cells #[.int .u8 (x:Int)] e m)) (some ⟨w.heap.size,0,none⟩) 1 1 (u8n [x]):=Rd.cells w [x] e rfl (by omega)
theorem Rd.val (w:World) {x:Int} (y:Nat) (h:x=(y:Int)) (e:TypeId) {m:Nat×Nat}:Rd (w.alloc (.cells #[.int .u8 x] e m)) (some ⟨w.heap.size,0,none⟩) 1 1 (u8n [y]):=by
 subst h
 exact Rd.one w y e
theorem eight_val (l k:Nat):(l:Int)*8/2 ^ (8*(7-k))%256=((8*l/2 ^ (8*(7-k))%256:Nat):Int):=by
 rw [Nat.mul_comm 8 l]
 simp
theorem info8:(Tryz.prog.info? 5).map (fun i=>(i.zero,i.size,i.bytes))=some (some (.int .u8 0),1,1):=by kernel_rfl
def Fresh (w:World) (xs:List Nat) (e:Ending) (w':World):Prop:=
 ∃A n c,Hid (n=xs.length)∧e=.returned (.slice A n c)∧w'.ownsRow w.heap.size 5 1 (.slice A n c) n (u8n xs)∧Below w.heap.size w w'
theorem eight_take (n:Nat) {k:Nat} (h:k<8):(eight n).take (k+1)=(eight n).take k++[8*n/2 ^ (8*(7-k))%256]:=by
 match k,h with
 | 0,_=>rfl
 | 1,_=>rfl
 | 2,_=>rfl
 | 3,_=>rfl
 | 4,_=>rfl
 | 5,_=>rfl
 | 6,_=>rfl
 | 7,_=>simp [eight]
theorem own_room {w:World} {g:Nat} {e:TypeId} (h:w.heap[g]?=some (.cells (List.replicate 72 (Value.int .u8 0)).toArray e (0,0))):w.ownsRow g e 1 (.slice (some ⟨g,0,none⟩) 0 72) 0 (u8n []):=by
 have h':=own_of_block (base:=g) (n:=0) h (Nat.le_refl _) (by simp) (by simp)
 simpa [u8n] using h'
def Zs (w:World) (l j:Nat) (out:Value) (wr:World):Prop:=
 ∃A n c,out=.slice A n c∧n=1+j∧j≤zs l∧wr.ownsRow w.heap.size 5 1 (.slice A n c) n (u8n ([128]++List.replicate j 0))∧Below w.heap.size w wr
def Es (w:World) (l k:Nat) (out:Value) (wr:World):Prop:=
 ∃A n c,out=.slice A n c∧n=1+zs l+k∧wr.ownsRow w.heap.size 5 1 (.slice A n c) n (u8n ([128]++List.replicate (zs l) 0++(eight l).take k))∧Below w.heap.size w wr
theorem zs_lt (l:Nat):zs l<64:=by unfold zs;omega
theorem zs_not {l j n:Nat} (h:j<zs l) (hn:n=1+j):(((l:Int)+(n:Int)+8)%64 != 0)=true:=by
 unfold zs at h
 simp
 omega
theorem zs_end {l j n:Nat} (h:j=zs l) (hn:n=1+j):(((l:Int)+(n:Int)+8)%64 != 0)=false:=by
 unfold zs at h
 simp
 omega
theorem ending_any (l:Nat) (w:World) (hl:l<1099511627776):Calls Tryz.prog 200 #[.int .i64 (l:Nat)] w (Fresh w (tail l)):=by
 obtain⟨i0,hi0,hz0,hz1,hz2⟩:=info_parts info8
 have hzl:=zs_lt l
 go_enter Tryz.func200,Tryz.ntmps200
 go_wp2_with (first
  | (refine wpList_make_room _ rfl _ _ 52 rfl 5 i0 (.int .u8 0) 1 Tryz.underlying52 hi0 hz0 hz1 hz2 rfl .i64 .i64 0 72 0 72 rfl rfl rfl rfl (by omega) (by omega) (by omega) ?_;intro w1 hB1 hb1 hs1)
  | (at_builtin;refine wpList_add _ rfl (.tmp 5) (.tmp 6) _ rfl w.heap.size 5 i0 _ 1 Tryz.underlying52 hi0 hz0 hz1 hz2 rfl _ 0 (u8n []) rfl ((own_room hB1.out).alloc _) (some ⟨w1.heap.size,0,none⟩) 1 1 (u8n [128]) (by rw [hs1];rfl) (Rd.one w1 128 _) (u8n_one _) (by omega) (by omega) (by simp;omega) ?_;intro A2 n2 c2 w2 hn2 hown2 hg2 hat2;have hb2:=below_add (hb1.alloc hb1.size _) ((own_room hB1.out).alloc _) (Nat.le_refl _) hg2;clear hat2 hg2))
 have H0:Hid (Zs w l 0 (.slice A2 n2 c2) w2):=Hz ⟨A2,n2,c2,rfl,by have:=hn2.out;omega,by omega,by rw [u8n_app] at hown2;exact hown2,hb2⟩
 clear hown2 hb2 hn2 hB1 hb1 hs1
 go_loopw [3] (fun o wr=>∃j:Nat,j≤zs l∧Hid (Zs w l j o wr)∧∃A,∃n c:Nat,o=.slice A n c) (fun o _=>match o with | .slice _ n _=>100-n|_=>0)
 case atStart=>exact⟨0,by omega,H0,_,_,_,rfl⟩
 case round=>
  obtain⟨j,hj,hT,A,n,c,rfl⟩:=hrel
  clear H0
  obtain⟨_,_,_,ho,hn,_,hown,hbel⟩:=hT.out
  injection ho with h1 h2 h3
  subst h1 h2 h3
  by_cases hlt:j<zs l
  ·have hne:=zs_not hlt hn
   have hn65:n≤65:=by omega
   have hnj:=Hz hn
   clear hn
   go_wp2_with (at_builtin;refine wpList_add _ rfl (.tmp 15) (.tmp 16) _ rfl w.heap.size 5 i0 _ 1 Tryz.underlying52 hi0 hz0 hz1 hz2 rfl _ n _ rfl (hown.alloc _) (some ⟨wr.heap.size,0,none⟩) 1 1 (u8n [0]) rfl (Rd.one wr 0 _) (u8n_one _) (by omega) (by omega) (by have:=hbel.size;simp;omega) ?_;intro A3 n3 c3 w3 hn3 hown3 hg3 hat3;have hb3:=below_add (hbel.alloc hbel.size _) (hown.alloc _) (Nat.le_refl _) hg3;clear hat3 hg3)
   have H3:Hid (Zs w l (j+1) (.slice A3 n3 c3) w3):=Hz ⟨A3,n3,c3,rfl,by have:=hn3.out;have:=hnj.out;omega,by omega,by rw [u8n_app,List.append_assoc,←List.replicate_succ'] at hown3;exact hown3,hb3⟩
   clear hown3 hb3 hT hown hne
   go_roundw
   case rel=>exact⟨j+1,by omega,H3,_,_,_,rfl⟩
   case measure=>have:=hn3.out;simp only [];omega
  ·have hjz:j=zs l:=by omega
   have hne:=zs_end hjz hn
   subst hjz
   have H4:Hid (Es w l 0 (.slice A n c) wr):=Hz ⟨A,n,c,rfl,by omega,by simpa using hown,hbel⟩
   have hn65:n≤65:=by omega
   clear hT hown hn hbel hlt hj
   go_wp2
   clear hne hn65
   go_loopw [18,3,4] (fun i o _ wr=>∃k:Nat,k≤8∧i=.int .i64 k∧Hid (Es w l k o wr)∧∃A,∃n c:Nat,o=.slice A n c) (fun i _ _ _=>8-(intOf i).toNat)
   case atStart=>exact⟨0,by omega,rfl,H4,_,_,_,rfl⟩
   case round=>
    obtain⟨k,hk,rfl,hT,A,n,c,rfl⟩:=hrel
    clear H4
    obtain⟨_,_,_,ho,hn,hown,hbel⟩:=hT.out
    injection ho with h1 h2 h3
    subst h1 h2 h3
    by_cases hlt:k<8
    ·have hn65:n≤72:=by omega
     have hnj:=Hz hn
     clear hn
     have hE:Hid ((eight l).take (k+1)=(eight l).take k++[8*l/2 ^ (8*(7-k))%256]):=Hz (eight_take l hlt)
     go_wp2_with (at_builtin;refine wpList_add _ rfl (.tmp 21) (.tmp 30) _ rfl w.heap.size 5 i0 _ 1 Tryz.underlying52 hi0 hz0 hz1 hz2 rfl _ n _ rfl (hown.alloc _) (some ⟨wr.heap.size,0,none⟩) 1 1 (u8n [8*l/2 ^ (8*(7-k))%256]) rfl (Rd.val wr _ (eight_val l k) _) (u8n_one _) (by omega) (by omega) (by have:=hbel.size;simp;omega) ?_;intro A3 n3 c3 w3 hn3 hown3 hg3 hat3;have hb3:=below_add (hbel.alloc hbel.size _) (hown.alloc _) (Nat.le_refl _) hg3;clear hat3 hg3)
     have H3:Hid (Es w l (k+1) (.slice A3 n3 c3) w3):=Hz ⟨A3,n3,c3,rfl,by have:=hn3.out;have:=hnj.out;omega,by rw [u8n_app,List.append_assoc,←hE.out] at hown3;exact hown3,hb3⟩
     clear hown3 hb3 hT hown hE
     go_roundw
     case rel=>exact⟨k+1,by omega,by go_num,H3,_,_,_,rfl⟩
     case measure=>simp [intOf];omega
    ·obtain rfl:k=8:=by omega
     go_wp2
     go_ret
     exact⟨A,n,c,Hz (by rw [tail_len];omega),rfl,hown,hbel⟩
end ShaG
namespace ShaH
open Go.RowKit Kit Byt ShaM ShaA ShaB ShaC ShaK ShaD ShaE ShaF ShaG
def hc (u:W8) (op:List Nat) (n:Nat):List Value:=wl u++(u8n op++[.int .i64 (n:Int)])
theorem hc_len {u:W8} {op:List Nat} {n:Nat} (h:op.length=64):(hc u op n).length=73:=by
 rw [hc,List.length_append,wl_len,List.length_append,u8n_len,h];rfl
theorem hc_long {u:W8} {op:List Nat} {n:Nat} (h:op.length=64):(hc u op n)[72]?=some (.int .i64 (n:Int)):=by
 rw [hc,List.getElem?_append_right (by rw [wl_len];omega),wl_len,List.getElem?_append_right (by rw [u8n_len];omega),u8n_len,h];rfl
theorem hc_setlong {u:W8} {op:List Nat} {n:Nat} (h:op.length=64) (m:Nat):(hc u op n).set 72 (.int .i64 (m:Int))=hc u op m:=by
 rw [hc,List.set_append,if_neg (by rw [wl_len];omega),wl_len,List.set_append,if_neg (by rw [u8n_len];omega),u8n_len,h];rfl
theorem hc_range {u:W8} {op:List Nat} {n:Nat} (h:op.length=64):((hc u op n).drop 8).take (u8n op).length=u8n op:=by
 rw [hc,List.drop_append_of_le_length (by rw [wl_len];omega),show (wl u).drop 8=[] from rfl,List.nil_append,List.take_left]
theorem hc_splice {u:W8} {op ys:List Nat} {n r:Nat} (h:op.length=64) (hr:r+ys.length≤64):splice (hc u op n) (8+r) (u8n ys)=hc u (splice op r ys) n:=by
 have h1:(hc u op n).take (8+r)=wl u++u8n (op.take r):=by
  rw [hc,List.take_append,wl_len,List.take_of_length_le (by rw [wl_len];omega),show 8+r-8=r by omega,List.take_append_of_le_length (by rw [u8n_len];omega)]
  simp [u8n]
 have h2:(hc u op n).drop (8+r+(u8n ys).length)=u8n (op.drop (r+ys.length))++[.int .i64 (n:Int)]:=by
  rw [u8n_len,hc,List.drop_append,wl_len,show (wl u).drop (8+r+ys.length)=[] from List.drop_of_length_le (by rw [wl_len];omega),List.nil_append,show 8+r+ys.length-8=r+ys.length by omega,List.drop_append_of_le_length (by rw [u8n_len];omega)]
  simp [u8n]
 rw [splice,h1,h2,hc,splice]
 simp [u8n]
def Hs (w:World) (g:Nat) (l:List Nat):Prop:=
 ∃op:List Nat,op.length=64∧by256 op∧op.take (l.length%64)=l.drop (64*(l.length/64))∧Blk w g 230 (hc (bk l (l.length/64)) op l.length)
theorem Hs.lt {w:World} {g:Nat} {l:List Nat} (h:Hs w g l):g<w.heap.size:=by
 obtain⟨op,_,_,_,hB⟩:=h
 exact hB.lt
theorem Hs.below {w w':World} {g:Nat} {l:List Nat} (h:Hs w g l) (hb:Below w.heap.size w w'):Hs w' g l:=by
 obtain⟨op,h1,h2,h3,hB⟩:=h
 exact⟨op,h1,h2,h3,hB.below hb⟩
theorem part_step {op l ys:List Nat} {q r:Nat} (h:op.length=64) (hl:l.length=64*q+r) (hop:op.take r=l.drop (64*q)) (hy:r+ys.length≤64):(splice op r ys).take (r+ys.length)=(l++ys).drop (64*q):=by
 have hr:(op.take r).length=r:=by simp;omega
 rw [splice,←List.append_assoc,List.take_append_of_le_length (by simp;omega),List.take_of_length_le (by simp;omega),hop,List.drop_append_of_le_length (by omega)]
theorem Hs.part {w:World} {g:Nat} {l ys op:List Nat} (h:op.length=64) (h2:by256 op) (hy:by256 ys) (hop:op.take (l.length%64)=l.drop (64*(l.length/64))) (hr:l.length%64+ys.length<64)
 (hB:Blk w g 230 (hc (bk l (l.length/64)) (splice op (l.length%64) ys) (l.length+ys.length))):Hs w g (l++ys):=by
 have hq:(l++ys).length/64=l.length/64:=by simp;omega
 have hm:(l++ys).length%64=l.length%64+ys.length:=by simp;omega
 refine⟨splice op (l.length%64) ys,by rw [length_splice _ _ _ (by omega),h],?_,?_,?_⟩
 ·intro c hc
  simp only [splice,List.mem_append] at hc
  rcases hc with hc|hc|hc
  ·exact h2 c (List.mem_of_mem_take hc)
  ·exact hy c hc
  ·exact h2 c (List.mem_of_mem_drop hc)
 ·rw [hm,hq]
  exact part_step h (by omega) hop (by omega)
 ·rw [hq,bk_app l ys _ (by omega),List.length_append]
  exact hB
theorem splice_lt {op ys:List Nat} {r:Nat} (h2:by256 op) (hy:by256 ys):by256 (splice op r ys):=by
 intro c hc
 simp only [splice,List.mem_append] at hc
 rcases hc with hc|hc|hc
 ·exact h2 c (List.mem_of_mem_take hc)
 ·exact hy c hc
 ·exact h2 c (List.mem_of_mem_drop hc)
theorem Hs.full {w:World} {g:Nat} {l ys op:List Nat} (h:op.length=64) (h2:by256 op) (hy:by256 ys) (hop:op.take (l.length%64)=l.drop (64*(l.length/64))) (hr:l.length%64+ys.length=64)
 (hB:Blk w g 230 (hc (blk (bk l (l.length/64)) (splice op (l.length%64) ys)) (splice op (l.length%64) ys) (l.length+ys.length))):Hs w g (l++ys):=by
 have hq:(l++ys).length/64=l.length/64+1:=by simp;omega
 have hm:(l++ys).length%64=0:=by simp;omega
 have hlen:(splice op (l.length%64) ys).length=64:=by rw [length_splice _ _ _ (by omega),h]
 have hs:=part_step (q:=l.length/64) h (by omega) hop (Nat.le_of_eq hr)
 rw [hr,List.take_of_length_le (by omega)] at hs
 refine⟨splice op (l.length%64) ys,hlen,splice_lt h2 hy,?_,?_⟩
 ·rw [hm,hq,List.take_zero,List.drop_of_length_le (by simp;omega)]
 ·rw [hq,bk,bk_app l ys _ (by omega),←hs,List.take_of_length_le (by omega),List.length_append]
  exact hB
def Src (w:World) (g:Nat) (A:Option Addr) (n c:Nat) (xs:List Nat):Prop:=Rd w A n c (u8n xs)∧(0<n→∀b o,A=some ⟨b,o,none⟩→b≠g)
theorem Src.grown {w w':World} {g n c:Nat} {A:Option Addr} {xs:List Nat} (h:Src w g A n c xs) (hg:w.grownBy w' (some g)):Src w' g A n c xs:=by
 refine⟨?_,h.2⟩
 rcases Nat.eq_zero_or_pos n with h0|h0
 ·have hx:xs=[]:=List.eq_nil_of_length_eq_zero (by have:=Rd.nats h.1;omega)
  subst h0 hx
  exact Rd.empty w' A h.1.cap
 ·exact Rd.grown h.1 hg fun k hk b o hA=>by injection hk with hk;subst hk;exact h.2 h0 b o hA
theorem Src.cut {w:World} {g n c m:Nat} {A:Option Addr} {xs:List Nat} (h:Src w g A n c xs) (hm:m≤n):Src w g (if c=m then A else A.map (·.add m)) (n-m) (c-m) (xs.drop m):=by
 have hl:=Rd.nats h.1
 rcases Nat.eq_zero_or_pos (n-m) with h0|h0
 ·have hx:xs.drop m=[]:=List.drop_of_length_le (by omega)
  rw [h0,hx]
  exact⟨Rd.empty w _ (by have:=h.1.cap;omega),fun h=>absurd h (by omega)⟩
 ·have hle:=h.1.le
  rw [if_neg (by omega)]
  obtain⟨b,o,hA,hb,hj⟩:=h.1.2.2.2 (by omega)
  have hA2:A.map (·.add m)=some ⟨b,o+m,none⟩:=by rw [hA];simp [Addr.add_lit]
  rw [hA2]
  refine⟨⟨by rw [u8n_len];simp;omega,by omega,by have:=h.1.cap;omega,fun _=>⟨b,o+m,rfl,hb,fun j u hu=>?_⟩⟩,fun _ b' o' he=>?_⟩
  ·rw [Nat.add_assoc]
   refine hj (m+j) u ?_
   rw [←hu]
   simp [u8n]
  ·injection he with he
   injection he with hb'
   subst hb'
   exact h.2 (by omega) _ _ hA
end ShaH
end Go.Proofs.YtkepomnbhnnliaaGreatDoor
