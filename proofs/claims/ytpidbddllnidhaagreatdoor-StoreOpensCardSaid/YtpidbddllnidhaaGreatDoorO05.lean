/- Parts of the proof, each under the conditions that it names. -/
import Derived.Test.YtpidbddllnidhaaGreatDoorO04
set_option maxRecDepth 100000
set_option maxHeartbeats 12800000
namespace Go.Proofs.YtpidbddllnidhaaGreatDoor
open Go.RowKit
namespace ShaI
open Kit Byt ShaM ShaB ShaC ShaK ShaE ShaG ShaH
theorem Tab.grown {w w':World} {g:Nat} (h:Tab w) (hg:w.grownBy w' (some g)) (h0:0<g):Tab w':=
 ⟨by have:=h.1;have:=hg.size;omega,fun i hi=>(World.cell?_of_block (a:=⟨0,i,none⟩) (hg.block _ h.1 (by simp;omega))).trans (h.2 i hi)⟩
def Wr (w:World) (g:Nat) (ws xs:List Nat) (k:Nat) (b:Value) (wr:World):Prop:=
 ∃A n c,b=.slice A n c∧n=xs.length-k∧k≤xs.length∧Src wr g A n c (xs.drop k)∧Hs wr g (ws++xs.take k)∧w.grownBy wr (some g)
theorem Gv:(Tryz.prog.info? 5).map (·.size)=some 1:=by kernel_rfl
theorem copied {w:World} {g:Nat} {t:TypeId} {u:W8} {op ys:List Nat} {L r m n:Nat} (h:op.length=64) (hy:ys.length=n) (hB:Blk w g t (splice (hc u op L) (8+r) ((u8n ys).take m))) (hm:m≤n∧r+m≤64):Blk w g t (hc u (splice op r (ys.take m)) L):=by
 have e:(u8n ys).take m=u8n (ys.take m):=by simp [u8n]
 rw [e,qzl h (by simp;omega)] at hB
 exact hB
theorem grown_trans {a b c:World} {g:Nat} (h:a.grownBy b (some g)) (k:b.grownBy c (some g)):a.grownBy c (some g):=
 ⟨k.os.trans h.os,k.tape.trans h.tape,k.output.trans h.output,Ml h.size k.size,fun i hi hne=>(k.block i (Mw hi h.size) hne).trans (h.block i hi hne)⟩
theorem part_done {w2:World} {g:Nat} {l ys op:List Nat} {u:W8} {L r m n:Nat} (H1:op.length=64) (h2:by256 op) (hy:by256 ys) (H3:op.take (l.length%64)=l.drop (64*(l.length/64))) (HL:L=l.length) (Hr:r=L%64) (Hu:u=bk l (L/64)) (Hyn:ys.length=n) (hm:m≤n) (hf:r+m<64)
 (hB2:Blk w2 g 237 (hc u (splice op r (ys.take m)) L)):Hs (w2.setCell ⟨g,72,none⟩ (.int .i64 ((L:Int)+(m:Int)))) g (l++ys.take m):=by
 subst HL Hr Hu
 have hm':(ys.take m).length=m:=by simp;omega
 have h5:=hB2.set 72 (.int .i64 ((l.length+m:Nat):Int))
 rw [Kj (by rw [length_splice _ _ _ (by omega),H1])] at h5
 refine Hs.part H1 h2 (fun c hc=>hy c (List.mem_of_mem_take hc)) H3 (by omega) ?_
 rw [hm']
 simpa using h5
theorem wr_next {w wr w3:World} {g n c k m:Nat} {ws xs l ys:List Nat} {A:Option Addr} (Hl:l=ws++xs.take k) (Hys:ys=xs.drop k) (hn:n=xs.length-k) (hk:k≤xs.length) (hm:m≤n) (HS:Src wr g A n c ys) (hgr:w.grownBy wr (some g)) (ho:wr.grownBy w3 (some g)) (hH:Hs w3 g (l++ys.take m)) :
 Wr w g ws xs (k+m) (.slice (if c=m then A else A.map (fun x=>x.add m)) (n-m) (c-m)) w3:=by
 subst Hl Hys
 refine⟨_,_,_,rfl,by omega,by omega,?_,?_,grown_trans hgr ho⟩
 ·have h:=(Src.cut HS hm).grown ho
  rw [List.drop_drop] at h
  exact h
 ·rw [List.take_add,←List.append_assoc]
  exact hH
theorem long_set {w2:World} {g:Nat} {op:List Nat} {u:W8} {L m:Nat} (H1:op.length=64) (hB2:Blk w2 g 237 (hc u op L)):Blk (w2.setCell ⟨g,72,none⟩ (.int .i64 ((L:Int)+(m:Int)))) g 237 (hc u op (L+m)):=by
 have h5:=hB2.set 72 (.int .i64 ((L+m:Nat):Int))
 rw [Kj H1] at h5
 simpa using h5
theorem hc_head (u y:W8) (op:List Nat) (n:Nat):splice (hc u op n) 0 (wl y)=hc y op n:=rfl
theorem full_done {w4:World} {g:Nat} {l ys op:List Nat} {u y:W8} {L r m n:Nat} (H1:op.length=64) (h2:by256 op) (hy:by256 ys) (H3:op.take (l.length%64)=l.drop (64*(l.length/64))) (HL:L=l.length) (Hr:r=L%64) (Hu:u=bk l (L/64)) (Hyn:ys.length=n) (hm:m≤n) (hf:r+m=64) (Hy:y=blk u (splice op r (ys.take m)))
 (hB5:Blk w4 g 237 (hc y (splice op r (ys.take m)) (L+m))):Hs w4 g (l++ys.take m):=by
 subst HL Hr Hu Hy
 have hm':(ys.take m).length=m:=by simp;omega
 refine Hs.full H1 h2 (fun c hc=>hy c (List.mem_of_mem_take hc)) H3 (by omega) ?_
 rw [hm']
 exact hB5
theorem write_any (g:Nat) (A:Option Addr) (n c:Nat) (xs ws:List Nat) (w:World) (hT:Tab w) (hg0:0<g) (hH:Hs w g ws) (hS:Src w g A n c xs) (hxs:by256 xs) (hbd:ws.length+xs.length<1099511627776) :
 Calls Tryz.prog 168 #[.pointer (some ⟨g,0,none⟩),.slice A n c] w fun e w'=>e=.returned (.tuple #[])∧Hs w' g (ws++xs)∧w.grownBy w' (some g):=by
 have HT:=Hz hT
 have H0:Hid (Wr w g ws xs 0 (.slice A n c) w):=Hz ⟨A,n,c,rfl,by have:=Rd.nats hS.1;omega,by omega,by simpa using hS,by simpa using hH,World.grownBy.refl w _⟩
 clear hT hH hS
 go_enter Tryz.func168,Tryz.ntmps168
 go_wp2
 go_loopw [1,4] (fun b _ wr=>∃k:Nat,k≤xs.length∧Hid (Wr w g ws xs k b wr)∧∃A,∃n c:Nat,b=.slice A n c) (fun b _ _=>match b with | .slice _ n _=>n|_=>0)
 case atStart=>exact⟨0,by omega,H0,_,_,_,rfl⟩
 case round=>
  obtain⟨k,hk,hW,A,n,c,rfl⟩:=hrel
  clear H0
  obtain⟨_,_,_,ho,hn,_,hS,hHs,hgr⟩:=hW.o
  injection ho with h1 h2 h3
  subst h1 h2 h3
  have hnl:n≤9223372036854775807:=by have:=hS.1.le;have:=hS.1.cap;omega
  by_cases hlt:0<n
  ·have hcn:=hS.1.le
   have hcc:=hS.1.cap
   obtain⟨l,hl⟩:∃l,l=ws++xs.take k:=⟨_,rfl⟩
   obtain⟨ys,hys⟩:∃ys,ys=xs.drop k:=⟨_,rfl⟩
   have hln:l.length=ws.length+k:=by rw [hl];simp;omega
   have hyn:ys.length=n:=by rw [hys];simp;omega
   rw [←hl] at hHs
   rw [←hys] at hS
   obtain⟨op,h1,h2,h3,hB⟩:=hHs
   obtain⟨L,hL⟩:∃L,L=l.length:=⟨_,rfl⟩
   obtain⟨r,hr⟩:∃r,r=L%64:=⟨_,rfl⟩
   obtain⟨m,hm⟩:∃m,m=min n (64-r):=⟨_,rfl⟩
   rw [←hL] at hB
   obtain⟨u,hu⟩:∃u,u=bk l (L/64):=⟨_,rfl⟩
   rw [←hu] at hB
   have Hu:=Hz hu
   clear hu
   have cL:wr.cell? ⟨g,72,none⟩=some (.int .i64 (L:Int)):=hB.cell (hc_long h1)
   have hrl:r<64:=by omega
   have hLb:L<1099511627776:=by omega
   have hm1:0<m:=by omega
   have hmn:m≤n:=by omega
   have hm3:m≤64-r:=by omega
   have e1:(L:Int).tmod 64=(r:Int):=by rw [Int.tmod_eq_emod_of_nonneg (by omega)];omega
   have e2:(L:Int)%64=(r:Int):=by omega
   have g1:(0:Int)≤(r:Int):=by omega
   have g2:(r:Int)≤64:=by omega
   have g3 : ¬64=r:=by omega
   have HL:=Hz hL
   have Hr:=Hz hr
   have Hm:=Hz hm
   have HB:=Hz hB
   have Hl:=Hz hl
   have Hys:=Hz hys
   have Hln:=Hz hln
   have Hyn:=Hz hyn
   have H3:=Hz h3
   have H1:=Hz h1
   have Hn:=Hz hn
   clear hL hr hm hB hl hys hln hyn h3 h1 hn
   have hS1:=Hz (show Rd wr.drew A n c (u8n ys) from hS.1)
   have HS:=Hz hS
   have hB1:=Hz (show Blk wr.drew g 237 (hc u op L) from HB.o)
   have hlen:=Hz (hc_len (u:=u) (n:=L) H1.o)
   clear hS
   by_cases hf:m=64-r
   ·have hq:((((L:Int)+(m:Int))%64)==0)=true:=by simp;omega
    have hf1:64≤r+m:=by omega
    clear hf
    have hok:=Hz (show u.ok by rw [Hu.o];exact bk_ok _ _)
    go_wp2
    go_still_tail 10,(by kernel_rfl)
    change wpList _ _ _ _ _ wr.drew
    clear cL
    refine Ql rfl (.tmp 18) (.tmp 19) 31 31 rfl 5 Tryz.underlying31 Gv g (8+r) (64-r) (64-r) rfl rfl hS1.o (u8n_one _) hB1.o (by rw [hlen.o];omega) ?_
    intro w2 m2 hm2 hB2' ho2
    obtain rfl:m2=m:=(by rw [hm2.o,Hm.o])
    have hm2':m2≤n:=by assumption
    have hB2:=Hz (copied H1.o Hyn.o hB2'.o (by omega))
    have hlo:=Hz (length_splice op r (ys.take m2) (by have:=H1.o;simp;omega))
    have cL2:=hB2.o.cell (hc_long (by rw [length_splice _ _ _ (by have:=H1.o;simp;omega)];exact H1.o))
    have fL2:=hB2.o.frozen 72
    have hB3:=Hz (long_set (m:=m2) (by rw [hlo.o];exact H1.o) hB2.o)
    have ho3:=Hz ((Only.of_drew ho2.o).trans (Only.set w2 g 72 (.int .i64 ((L:Int)+(m2:Int)))))
    obtain⟨op2,hop2⟩:∃op2,op2=splice op r (ys.take m2):=⟨_,rfl⟩
    have hl2:=Hz (show op2.length=64 by rw [hop2,hlo.o];exact H1.o)
    have hb2:=Hz (show by256 op2 by rw [hop2];exact T7 h2 (Hys.o▸fun c hc=>hxs c (List.mem_of_mem_drop (List.mem_of_mem_take hc))))
    rw [←hop2] at hB3
    have Hop2:=Hz hop2
    clear hop2 hB2 hB2' ho2 hm2
    go_wp2
    all_goals
     clear cL2 fL2
     generalize w2.setCell ⟨g,72,none⟩ (.int .i64 ((L:Int)+(m2:Int)))=w3 at *
     have hrg:=Hz (Blk.range (w:=w3.drew) hB3.o (hc_range hl2.o))
     have hrw:=Hz (Blk.range (w:=w3.drew) (off:=0) (cs:=wl u) hB3.o (by rw [Jv];rfl))
     have hTd:Hid (Tab w3.drew):=Hz (show Tab w3 from Tab.grown HT.o (grown_trans hgr ho3.o.1) hg0)
     have hbeh:=fun W (hT:Tab W)=>Yt u op2 W hT hok.o hl2.o hb2.o
     obtain⟨y,hy⟩:∃y,y=blk u op2:=⟨_,rfl⟩
     rw [←hy,←wl_ws,←wl_ws] at hbeh
     have Hy:=Hz hy
     clear hy
     have hi49:Hid ((Tryz.prog.info? 235).map (·.size)=some (u8n op2).length):=Hz (by rw [Qv,hl2.o];exact Kq)
     have hi46:Hid ((Tryz.prog.info? 233).map (·.size)=some (wl u).length):=Hz (by rw [Jv];exact Q5)
     refine wp_region_any (by kernel_rfl) ?_
     change wpAny _ _ _ _ _ _ _ (World.drew _)
     refine wpAny_take (i:=0) (v:=.pointer (some ⟨g,0,none⟩)) rfl (by kernel_rfl) (by kernel_rfl) (by kernel_rfl) (fun _ _ _ h=>h) (Or.inl ⟨by rfl,fun w=>by go_simp⟩) ?_
     refine wpAny_take (i:=1) (v:=.pointer (some ⟨g,0,none⟩)) rfl (by kernel_rfl) (by kernel_rfl) (by kernel_rfl) (fun _ _ _ h=>h) (Or.inl ⟨by rfl,fun w=>by go_simp⟩) ?_
     refine wpAny_take (i:=2) (v:=.pointer (some ⟨g,0,none⟩)) rfl (by kernel_rfl) (by kernel_rfl) (by kernel_rfl) (fun _ _ _ h=>h) (Or.inl ⟨by rfl,fun w=>by go_simp⟩) ?_
     refine wpAny_take (i:=3) (v:=.pointer (some ⟨g,0,none⟩)) rfl (by kernel_rfl) (by kernel_rfl) (by kernel_rfl) (fun _ _ _ h=>h) (Or.inl ⟨by rfl,fun w=>by go_simp⟩) ?_
     refine wpAny_take (i:=5) (v:=.pointer (some ⟨g,0,none⟩)) rfl (by kernel_rfl) (by kernel_rfl) (by kernel_rfl) (fun _ _ _ h=>h) (Or.inl ⟨by rfl,fun w=>by go_simp⟩) ?_
     refine wpAny_take (i:=6) (v:=.pointer (some ⟨g,0,none⟩)) rfl (by kernel_rfl) (by kernel_rfl) (by kernel_rfl) (fun _ _ _ h=>h) (Or.inl ⟨by rfl,fun w=>by go_simp⟩) ?_
     refine wpAny_take (i:=7) (v:=.pointer (some ⟨g,8,none⟩)) rfl (by kernel_rfl) (by kernel_rfl) (by kernel_rfl) (fun _ _ _ h=>h) (Or.inl ⟨by rfl,fun w=>by go_simp⟩) ?_
     simp only [tq]
     refine wpAny_ready (rs:=[4,8]) (by kernel_rfl) (by simp) ?_
     refine AllReady.cons rfl (fun K hK=>?_) (AllReady.cons rfl (fun K hK=>?_) AllReady.nil)
     rw [if_pos (by rfl)]
     refine wp_load_mid 233 (.tmp 41) rfl g 0 rfl (wl u) _ hrw.o Tryz.underlying233 rfl hi46.o ?_
     refine hK _ _ ?_
     clear hK K
     simp only [tq]
     refine wpAny_ready (rs:=[8]) (by kernel_rfl) (by simp) ?_
     refine AllReady.cons rfl (fun K hK=>?_) AllReady.nil
     rw [if_pos (by rfl)]
     refine wp_load_mid 235 (.tmp 45) rfl g 8 rfl (u8n op2) _ hrg.o Tryz.underlying235 rfl hi49.o ?_
     refine hK _ _ ?_
     clear hK K
     simp only [tq]
     rotate_left
     rw [if_pos (by rfl)]
     refine wp_load_mid 235 (.tmp 45) rfl g 8 rfl (u8n op2) _ hrg.o Tryz.underlying235 rfl hi49.o ?_
     refine hK _ _ ?_
     clear hK K
     simp only [tq]
     refine wpAny_ready (rs:=[4]) (by kernel_rfl) (by simp) ?_
     refine AllReady.cons rfl (fun K hK=>?_) AllReady.nil
     rw [if_pos (by rfl)]
     refine wp_load_mid 233 (.tmp 41) rfl g 0 rfl (wl u) _ hrw.o Tryz.underlying233 rfl hi46.o ?_
     refine hK _ _ ?_
     clear hK K
     simp only [tq]
     all_goals
      refine wpAny_ready (rs:=[9]) (by kernel_rfl) (by simp) ?_
      refine AllReady.cons rfl (fun K hK=>?_) AllReady.nil
      go_simp
      refine (hbeh _ hTd.o).mono ?_
      rintro e w4 ⟨rfl,hb4⟩
      go_wp2_with fail
      refine wpAny_take (i:=10) (v:=.pointer (some ⟨g,0,none⟩)) rfl (by kernel_rfl) (by kernel_rfl) (by kernel_rfl) (fun _ _ _ h=>h) (Or.inl ⟨by rfl,fun w=>by go_simp⟩) ?_
      refine wpAny_take (i:=11) (v:=.pointer (some ⟨g,0,none⟩)) rfl (by kernel_rfl) (by kernel_rfl) (by kernel_rfl) (fun _ _ _ h=>h) (Or.inl ⟨by rfl,fun w=>by go_simp⟩) ?_
      refine wpAny_ready (rs:=[12]) (by kernel_rfl) (by simp) ?_
      refine AllReady.cons rfl (fun K hK=>?_) AllReady.nil
      rw [if_pos (by rfl)]
      refine Zk 233 (.tmp 49) (.tmp 47) rfl g 0 rfl (wl y) rfl (Blk.below (w:=w3.drew) hB3.o hb4) (by rw [hc_len hl2.o,Jv];omega) (by rw [Jv];exact Q5) (u32n_one _) ?_
      intro w5 hB5 ho5
      refine hK _ _ ?_
      clear hK K
      refine wpAny_done (by kernel_rfl) ?_ _
      simp only [tq]
      have hg45:wr.grownBy w5 (some g):=grown_trans (grown_trans ho3.o.1 ⟨hb4.os,hb4.tape,hb4.output,hb4.size,fun k hk _=>hb4.block k hk⟩) ho5.o.1
      have hP:=Hz (full_done (y:=y) H1.o h2 (Hys.o▸fun c hc=>hxs c (List.mem_of_mem_drop hc)) H3.o HL.o Hr.o Hu.o Hyn.o hm2' (by omega) (by rw [Hy.o,Hop2.o]) (by have h9:=hB5.o;rw [hc_head] at h9;rw [←Hop2.o];exact h9))
      have hW2:=Hz (wr_next Hl.o Hys.o Hn.o hk hm2' HS.o hgr hg45 hP.o)
      clear hW hP hB3 hgr HS hb4 ho5 hB5 hg45 ho3
      go_wp2
      go_roundw
      case rel=>
       refine⟨k+m2,by have:=Hn.o;omega,Hz ?_,_,_,_,rfl⟩
       have h7:=hW2.o
       first
        | (rw [if_neg (by assumption)] at h7;exact h7)
        | (rw [if_pos (by assumption),show c-m2=0 by omega] at h7;exact h7)
      case measure=>simp only [];omega
   ·have hq:((((L:Int)+(m:Int))%64)==0)=false:=by simp;omega
    go_wp2
    go_still_tail 10,(by kernel_rfl)
    change wpList _ _ _ _ _ wr.drew
    clear cL
    refine Ql rfl (.tmp 18) (.tmp 19) 31 31 rfl 5 Tryz.underlying31 Gv g (8+r) (64-r) (64-r) rfl rfl hS1.o (u8n_one _) hB1.o (by rw [hlen.o];omega) ?_
    intro w2 m2 hm2 hB2' ho2
    obtain rfl:m2=m:=(by rw [hm2.o,Hm.o])
    have hm2':m2≤n:=by assumption
    have hB2:=Hz (copied H1.o Hyn.o hB2'.o (by omega))
    have cL2:=hB2.o.cell (hc_long (by rw [length_splice _ _ _ (by have:=H1.o;simp;omega)];exact H1.o))
    have fL2:=hB2.o.frozen 72
    have hP:=Hz (part_done H1.o h2 (Hys.o▸fun c hc=>hxs c (List.mem_of_mem_drop hc)) H3.o HL.o Hr.o Hu.o Hyn.o hm2' (by omega) hB2.o)
    have hW2:=Hz (wr_next Hl.o Hys.o Hn.o hk hm2' HS.o hgr ((Only.of_drew ho2.o).trans (Only.set w2 g 72 _)).1 hP.o)
    clear hW hP hB2 hB2' ho2 hm2 hgr HS
    go_wp2
    go_roundw
    case rel=>exact⟨k+m2,by have:=Hn.o;omega,hW2,_,_,_,rfl⟩
    case measure=>simp only [];omega
  ·have hx:xs.take k=xs:=Mt (by omega)
   rw [hx] at hHs
   have hn0:n=0:=by omega
   clear hx hW hn
   subst hn0
   go_wp2
   go_end0
   exact⟨rfl,hHs,hgr⟩
end ShaI
end Go.Proofs.YtpidbddllnidhaaGreatDoor
