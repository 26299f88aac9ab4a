/- The parts that this claim uses of: ShaD. Conditions: those that each law names. -/
import Derived.Test.YtkepomnbhnnliaaGreatDoorK06
import Derived.BigRegion
set_option maxRecDepth 100000
set_option maxHeartbeats 12800000
namespace Go.Proofs.YtkepomnbhnnliaaGreatDoor
namespace ShaD
open Go.RowKit Kit Byt ShaM ShaA ShaB ShaC ShaK
theorem zero64 (w:World):(zeroValue 279).run Tryz.prog w=.ok (.agg (u32n (List.replicate 64 0)).toArray) w:=by kernel_rfl
def part (b:List Nat) (k:Nat):List Nat:=sch b k++List.replicate (64-k) 0
theorem part_len {b:List Nat} {k:Nat} (h:k≤64):(part b k).length=64:=by simp [part,sch_len];omega
theorem part_set {b:List Nat} {k:Nat} (h:k<64) (v:Nat) (hv:v=if k<16 then wd b k else nx (sch b k) k):(part b k).set k v=part b (k+1):=by
 subst hv
 have e:64-k=(64-(k+1))+1:=by omega
 unfold part
 rw [List.set_append,if_neg (by rw [sch_len];omega),sch_len,Nat.sub_self,e,List.replicate_succ,List.set_cons_zero,sch,List.append_assoc]
 rfl
theorem part_old {b:List Nat} {k j:Nat} (h:j<k):(part b k).getD j 0=(sch b k).getD j 0:=by
 unfold part
 rw [List.getD_eq_getElem?_getD,List.getD_eq_getElem?_getD,List.getElem?_append_left (by rw [sch_len];omega)]
theorem begin3 (w:World) (b:List Nat) {Z B:Array Value} (hZ:Z=(u32n (List.replicate 64 0)).toArray) (hB:B=(u8n b).toArray) :
 Blk (((w.alloc (.cells B 228)).alloc (.cells Z 279)).alloc (.cells Z 279)) w.heap.size 228 (u8n b)∧Blk (((w.alloc (.cells B 228)).alloc (.cells Z 279)).alloc (.cells Z 279)) (w.heap.size+1) 279 (u32n (List.replicate 64 0))∧Blk (((w.alloc (.cells B 228)).alloc (.cells Z 279)).alloc (.cells Z 279)) (w.heap.size+1+1) 279 (u32n (part b 0))∧Below w.heap.size w (((w.alloc (.cells B 228)).alloc (.cells Z 279)).alloc (.cells Z 279)):=by
 subst hZ hB
 exact⟨alloc_old (alloc_old (heap_alloc_new w _)),alloc_old (heap_alloc_at (by simp)),heap_alloc_at (by simp),(((Below.refl _ _).alloc (Nat.le_refl _) _).alloc (by simp) _).alloc (by simp;omega) _⟩
theorem part_all (b:List Nat):part b 64=sch b 64:=by simp [part]
theorem size_w64:(Tryz.prog.info? 279).map (·.size)=some 64:=by kernel_rfl
theorem size_sch (b:List Nat):(Tryz.prog.info? 279).map (·.size)=some (u32n (sch b 64)).length:=by rw [u32n_len,sch_len];exact size_w64
theorem word_or {x0 x1 x2 x3:Nat} (h0:x0<256) (h1:x1<256) (h2:x2<256) (h3:x3<256) :
 bits .or .u32 (bits .or .u32 (bits .or .u32 (IntKind.u32.wrap (IntKind.u32.wrap (x0:Int)*16777216)) (IntKind.u32.wrap (IntKind.u32.wrap (x1:Int)*65536))) (IntKind.u32.wrap (IntKind.u32.wrap (x2:Int)*256))) (IntKind.u32.wrap (x3:Int))=((x0*16777216+x1*65536+x2*256+x3:Nat):Int):=by
 have e0:IntKind.u32.wrap (IntKind.u32.wrap (x0:Int)*16777216)=((2 ^ 24*x0:Nat):Int):=by simp only [IntKind.wrap_u32];omega
 have e1:IntKind.u32.wrap (IntKind.u32.wrap (x1:Int)*65536)=((2 ^ 16*x1:Nat):Int):=by simp only [IntKind.wrap_u32];omega
 have e2:IntKind.u32.wrap (IntKind.u32.wrap (x2:Int)*256)=((2 ^ 8*x2:Nat):Int):=by simp only [IntKind.wrap_u32];omega
 have e3:IntKind.u32.wrap (x3:Int)=((x3:Nat):Int):=by simp only [IntKind.wrap_u32];omega
 have o1:2 ^ 24*x0 ||| 2 ^ 16*x1=2 ^ 16*(256*x0+x1):=by
  rw [←Nat.two_pow_add_eq_or_of_lt (i:=24) (by omega)];omega
 have o2:2 ^ 16*(256*x0+x1) ||| 2 ^ 8*x2=2 ^ 8*(65536*x0+256*x1+x2):=by
  rw [←Nat.two_pow_add_eq_or_of_lt (i:=16) (by omega)];omega
 have o3:2 ^ 8*(65536*x0+256*x1+x2) ||| x3=x0*16777216+x1*65536+x2*256+x3:=by
  rw [←Nat.two_pow_add_eq_or_of_lt (i:=8) (by omega)];omega
 rw [e0,e1,e2,e3,or32 (by omega) (by omega),o1,or32 (by omega) (by omega),o2,or32 (by omega) (by omega),o3]
theorem nx_eq {x0 x1 x2 x3:Nat} (h0:x0<4294967296) (h1:x1<4294967296) (h2:x2<4294967296) (h3:x3<4294967296) :
 IntKind.u32.wrap (IntKind.u32.wrap (IntKind.u32.wrap ((x0:Int)+(x1:Int))+bits .xor .u32 (bits .xor .u32 ((rt x2 7:Nat):Int) ((rt x2 18:Nat):Int)) ((x2:Int)/8))+bits .xor .u32 (bits .xor .u32 ((rt x3 17:Nat):Int) ((rt x3 19:Nat):Int)) ((x3:Int)/1024))=(((x0+x1+s0 x2+s1 x3)%4294967296:Nat):Int):=by
 have e2:((x2:Int)/8)=((x2/8:Nat):Int):=by omega
 have e3:((x3:Int)/1024)=((x3/1024:Nat):Int):=by omega
 rw [e2,e3,xor32 (rt_lt h2 (by decide)) (rt_lt h2 (by decide)),xor32 (rt_lt h3 (by decide)) (rt_lt h3 (by decide)),xor32 (xor_lt (rt_lt h2 (by decide)) (rt_lt h2 (by decide))) (by omega),xor32 (xor_lt (rt_lt h3 (by decide)) (rt_lt h3 (by decide))) (by omega)]
 unfold s0 s1
 simp only [IntKind.wrap_u32]
 omega
def Kept (w:World) (b:List Nat) (k:Nat) (wr:World):Prop:=
 Blk wr w.heap.size 228 (u8n b)∧Blk wr (w.heap.size+1) 279 (u32n (List.replicate 64 0))∧Blk wr (w.heap.size+1+1) 279 (u32n (part b k))∧Below w.heap.size w wr
theorem sch_at {b:List Nat} (h:by256 b) (k j:Nat):(sch b k).getD j 0<4294967296:=by
 rw [List.getD_eq_getElem?_getD]
 by_cases hk:j<(sch b k).length
 ·rw [List.getElem?_eq_getElem hk]
  exact sch_lt h k _ (List.getElem_mem hk)
 ·rw [List.getElem?_eq_none (by omega)]
  decide
theorem spread_any (b:List Nat) (w:World) (hl:b.length=64) (hb:by256 b):Calls Tryz.prog 227 #[.agg (u8n b).toArray] w fun e w'=>e=.returned (.agg (u32n (sch b 64)).toArray)∧Below w.heap.size w w':=by
 have hz:=zero64
 obtain⟨Z,hZ⟩:∃Z:Array Value,Z=(u32n (List.replicate 64 0)).toArray:=⟨_,rfl⟩
 obtain⟨B,hB⟩:∃B:Array Value,B=(u8n b).toArray:=⟨_,rfl⟩
 rw [←hB]
 simp only [←hZ] at hz
 have H0:Hid (Kept w b 0 _):=Hz (begin3 w b hZ hB)
 clear hZ hB
 go_enter Tryz.func227,Tryz.ntmps227
 go_wp2
 clear hz
 go_loopw [8,4] (fun i _ wr=>∃k:Nat,k≤16∧i=.int .i64 k∧Hid (Kept w b k wr)) (fun i _ _=>16-(intOf i).toNat)
 case atStart=>exact⟨0,by omega,rfl,H0⟩
 case round=>
  obtain⟨k,hk,rfl,hT⟩:=hrel
  clear H0
  by_cases hlt:k<16
  ·obtain⟨B0,B1,B2,hbel⟩:=hT.out
   have c0:=B0.byte (i:=4*k) (by omega)
   have c1:=B0.byte (i:=4*k+1) (by omega)
   have c2:=B0.byte (i:=4*k+2) (by omega)
   have c3:=B0.byte (i:=4*k+3) (by omega)
   have c4:=B2.word (i:=k) (by rw [part_len (by omega)];omega)
   have f4:=B2.frozen k
   have h0:=getD_lt hb (4*k)
   have h1:=getD_lt hb (4*k+1)
   have h2:=getD_lt hb (4*k+2)
   have h3:=getD_lt hb (4*k+3)
   have hS:Hid (Kept w b (k+1) (wr.drew.setCell ⟨w.heap.size+1+1,k,none⟩ (.int .u32 (wd b k:Nat)))):=Hz (by
    refine⟨Blk.far (w:=wr.drew) B0 (by simp;omega) _,Blk.far (w:=wr.drew) B1 (by simp) _,?_,hbel.drew.setCell (by simp;omega) _⟩
    have h5:=Blk.set (w:=wr.drew) B2 k (.int .u32 (wd b k:Nat))
    rw [u32n_set,part_set (by omega) _ (by rw [if_pos hlt])] at h5
    exact h5)
   have hwo:=Hz (word_or h0 h1 h2 h3)
   have hwd:Hid (b.getD (4*k) 0*16777216+b.getD (4*k+1) 0*65536+b.getD (4*k+2) 0*256+b.getD (4*k+3) 0=wd b k):=Hz rfl
   clear B0 B1 B2 hbel
   generalize b.getD (4*k) 0=x0 at *
   generalize b.getD (4*k+1) 0=x1 at *
   generalize b.getD (4*k+2) 0=x2 at *
   generalize b.getD (4*k+3) 0=x3 at *
   go_wp2
   have w0:IntKind.i64.wrap (4*(k:Int))=4*(k:Int):=by rw [IntKind.wrap_i64];omega
   have w1:IntKind.i64.wrap (4*(k:Int)+1)=4*(k:Int)+1:=by rw [IntKind.wrap_i64];omega
   have w2:IntKind.i64.wrap (4*(k:Int)+2)=4*(k:Int)+2:=by rw [IntKind.wrap_i64];omega
   have w3:IntKind.i64.wrap (4*(k:Int)+3)=4*(k:Int)+3:=by rw [IntKind.wrap_i64];omega
   have t0:(4*(k:Int)).toNat=4*k:=by omega
   have t1:(4*(k:Int)+1).toNat=4*k+1:=by omega
   have t2:(4*(k:Int)+2).toNat=4*k+2:=by omega
   have t3:(4*(k:Int)+3).toNat=4*k+3:=by omega
   have p0:(0:Int)≤4*(k:Int):=by omega
   have p1:(0:Int)≤4*(k:Int)+1:=by omega
   have p2:(0:Int)≤4*(k:Int)+2:=by omega
   have p3:(0:Int)≤4*(k:Int)+3:=by omega
   have q0:4*(k:Int)<64:=by omega
   have q1:4*(k:Int)+1<64:=by omega
   have q2:4*(k:Int)+2<64:=by omega
   have q3:4*(k:Int)+3<64:=by omega
   have r0:(0:Int)≤(k:Int):=by omega
   have r1:(k:Int)<64:=by omega
   go_still_tail 31,(by kernel_rfl)
   clear w0 w1 w2 w3 t0 t1 t2 t3 p0 p1 p2 p3 q0 q1 q2 q3 r0 r1
   change wpList _ _ _ _ _ wr.drew
   rw [hwo.out,hwd.out]
   clear hwo hwd c0 c1 c2 c3
   generalize wd b k=y at *
   go_wp2
   go_roundw
   case rel=>exact⟨k+1,by omega,by go_num,hS⟩
   case measure=>simp [intOf];omega
  ·obtain rfl:k=16:=by omega
   go_wp2
   rw [show ((16:Nat):Int)=16 from rfl]
   go_loopw [5,6,7] (fun i _ _ wr=>∃k:Nat,16≤k∧k≤64∧i=.int .i64 k∧Hid (Kept w b k wr)) (fun i _ _ _=>64-(intOf i).toNat)
   case atStart=>exact⟨16,by omega,by omega,rfl,hT⟩
   case round=>
    obtain⟨k,hk16,hk,rfl,hT⟩:=hrel
    by_cases hlt:k<64
    ·obtain⟨B0,B1,B2,hbel⟩:=hT.out
     have c0:=B2.word (i:=k-16) (by rw [part_len (by omega)];omega)
     have c1:=B2.word (i:=k-7) (by rw [part_len (by omega)];omega)
     have c2:=B2.word (i:=k-15) (by rw [part_len (by omega)];omega)
     have c3:=B2.word (i:=k-2) (by rw [part_len (by omega)];omega)
     have c4:=B2.word (i:=k) (by rw [part_len (by omega)];omega)
     have f4:=B2.frozen k
     rw [part_old (by omega)] at c0 c1 c2 c3
     have hwd:Hid (nx (sch b k) k=((sch b k).getD (k-16) 0+(sch b k).getD (k-7) 0+s0 ((sch b k).getD (k-15) 0)+s1 ((sch b k).getD (k-2) 0))%4294967296):=Hz rfl
     have h0:=sch_at hb k (k-16)
     have h1:=sch_at hb k (k-7)
     have h2:=sch_at hb k (k-15)
     have h3:=sch_at hb k (k-2)
     clear B0 B1 B2 hbel
     generalize (sch b k).getD (k-16) 0=x0 at *
     generalize (sch b k).getD (k-7) 0=x1 at *
     generalize (sch b k).getD (k-15) 0=x2 at *
     generalize (sch b k).getD (k-2) 0=x3 at *
     go_wp2
     have w0:IntKind.i64.wrap ((k:Int)-16)=(k:Int)-16:=by rw [IntKind.wrap_i64];omega
     have w1:IntKind.i64.wrap ((k:Int)-7)=(k:Int)-7:=by rw [IntKind.wrap_i64];omega
     have w2:IntKind.i64.wrap ((k:Int)-15)=(k:Int)-15:=by rw [IntKind.wrap_i64];omega
     have w3:IntKind.i64.wrap ((k:Int)-2)=(k:Int)-2:=by rw [IntKind.wrap_i64];omega
     have t0:((k:Int)-16).toNat=k-16:=by omega
     have t1:((k:Int)-7).toNat=k-7:=by omega
     have t2:((k:Int)-15).toNat=k-15:=by omega
     have t3:((k:Int)-2).toNat=k-2:=by omega
     have p0:(0:Int)≤(k:Int)-16:=by omega
     have p1:(0:Int)≤(k:Int)-7:=by omega
     have p2:(0:Int)≤(k:Int)-15:=by omega
     have p3:(0:Int)≤(k:Int)-2:=by omega
     have q0:(k:Int)-16<64:=by omega
     have q1:(k:Int)-7<64:=by omega
     have q2:(k:Int)-15<64:=by omega
     have q3:(k:Int)-2<64:=by omega
     have r0:(0:Int)≤(k:Int):=by omega
     have r1:(k:Int)<64:=by omega
     have m0:(16:Int)≤(k:Int):=by omega
     have m1:(7:Int)≤(k:Int):=by omega
     have m2:(15:Int)≤(k:Int):=by omega
     have m3:(2:Int)≤(k:Int):=by omega
     go_quiet (fail)
     have hT2:Hid (Kept w b k (wr.drewN nq)):=Hz ⟨hT.out.1,hT.out.2.1,hT.out.2.2.1,below_drewN hT.out.2.2.2 nq⟩
     replace c0:(wr.drewN nq).cell? _=_:=c0
     replace c1:(wr.drewN nq).cell? _=_:=c1
     replace c2:(wr.drewN nq).cell? _=_:=c2
     replace c3:(wr.drewN nq).cell? _=_:=c3
     replace c4:(wr.drewN nq).cell? _=_:=c4
     replace f4:(wr.drewN nq).frozen? _=_:=f4
     clear hT
     generalize wr.drewN nq=wq at *
     go_wp2
     go_still_tail 29,(by kernel_rfl)
     refine wpStill_step (fun K hK=>?_)
     go_simp
     refine⟨_,(rot7 x2 _ h2).mono (fun e w' h=>⟨h.1,h.2.symm⟩),hK _ ?_⟩
     clear hK K
     repeat still_step
     refine wpStill_step (fun K hK=>?_)
     go_simp
     refine⟨_,(rot18 x2 _ h2).mono (fun e w' h=>⟨h.1,h.2.symm⟩),hK _ ?_⟩
     clear hK K
     repeat still_step
     refine wpStill_step (fun K hK=>?_)
     go_simp
     refine⟨_,(rot17 x3 _ h3).mono (fun e w' h=>⟨h.1,h.2.symm⟩),hK _ ?_⟩
     clear hK K
     repeat still_step
     refine wpStill_step (fun K hK=>?_)
     go_simp
     refine⟨_,(rot19 x3 _ h3).mono (fun e w' h=>⟨h.1,h.2.symm⟩),hK _ ?_⟩
     clear hK K
     repeat still_step
     refine wpStill_nil ?_
     clear w0 w1 w2 w3 t0 t1 t2 t3 p0 p1 p2 p3 q0 q1 q2 q3 r0 r1 m0 m1 m2 m3
     change wpList _ _ _ _ _ wq.drew
     rw [nx_eq h0 h1 h2 h3,←hwd.out]
     have hS:Hid (Kept w b (k+1) (wq.drew.setCell ⟨w.heap.size+1+1,k,none⟩ (.int .u32 (nx (sch b k) k:Nat)))):=Hz (by
      obtain⟨B0,B1,B2,hbel⟩:=hT2.out
      refine⟨Blk.far (w:=wq.drew) B0 (by simp;omega) _,Blk.far (w:=wq.drew) B1 (by simp) _,?_,hbel.drew.setCell (by simp;omega) _⟩
      have h5:=Blk.set (w:=wq.drew) B2 k (.int .u32 (nx (sch b k) k:Nat))
      rw [u32n_set,part_set (by omega) _ (by rw [if_neg (by omega)])] at h5
      exact h5)
     clear c0 c1 c2 c3 hT2 hwd
     generalize nx (sch b k) k=y at *
     go_wp2
     go_roundw
     case rel=>exact⟨k+1,by omega,by omega,by go_num,hS⟩
     case measure=>simp [intOf];omega
    ·obtain rfl:k=64:=by omega
     obtain⟨_,B1',B2',hbel⟩:=hT.out
     rw [part_all] at B2'
     have B1:=Hz B1'
     have B2:=Hz B2'
     have hi:=Hz (size_sch b)
     clear B1' B2' hT
     go_wp2_with (first
      | (refine wpList_load_blk rfl 279 _ rfl (w.heap.size+1+1) rfl B2.out Tryz.underlying279 rfl hi.out ?_)
      | (refine wpList_store_blk rfl 279 (.tmp 2) (.tmp 84) rfl (w.heap.size+1) rfl (u32n (sch b 64)) rfl B1.out (by simp [u32n_len,sch_len]) hi.out (u32n_one _) ?_;intro w3 hB3 ho3))
     exact ret_row Tryz.results227 rfl rfl hB3.out Tryz.underlying279 rfl (by simpa using hi.out) ⟨rfl,ho3.out.below hbel (by omega) hbel.size⟩
end ShaD
end Go.Proofs.YtkepomnbhnnliaaGreatDoor
