/- Parts of the proof, each under the conditions that it names. -/
import Derived.Test.YtpidbddllnidhaaGreatDoorO07
import Derived.Handy
set_option maxRecDepth 100000
set_option maxHeartbeats 12800000
namespace Go.Proofs.YtpidbddllnidhaaGreatDoor
open Go.RowKit
namespace RefK
open Kit Byt Mem ShaM RefM RefB RefE RefH
structure KN (w0 w:World) (kb:Nat) (F:Option Addr) (n1 c1:Nat) (X:List Nat) (R:Option Addr) (n2 c2:Nat) (Y:List Nat):Prop where
 blk:Blk w kb 224 [.slice F n1 c1,.slice R n2 c2]
 o1:w.ownsRow w0.heap.size 3 1 (.slice F n1 c1) n1 (i64n X)
 o2:w.ownsRow w0.heap.size 3 1 (.slice R n2 c2) n2 (i64n Y)
 ne:∀g,(Value.slice F n1 c1).ownBlock=some g→(Value.slice R n2 c2).ownBlock≠some g
 kp:Keep (fun g=>g=kb) w0 w
 lt:kb<w0.heap.size
section
variable {w0 w w5 w6 w7:World} {kb n1 c1 n2 c2 n' c' y:Nat} {F R A':Option Addr} {X Y:List Nat} {o:Obj}
theorem KN.next1 (h:KN w0 w kb F n1 c1 X R n2 c2 Y) (hb5:Bw w w5) (hown:w6.ownsRow w0.heap.size 3 1 (.slice A' n' c') n' (i64n X++i64n [y])) (hg:(w5.alloc o).grownBy w6 (Value.slice F n1 c1).ownBlock)
 (hat:(Value.slice A' n' c').ownBlock=(Value.slice F n1 c1).ownBlock∨(Value.slice A' n' c').ownBlock=some (w5.alloc o).heap.size) (hw:w7=w6.setCell ⟨kb,0,none⟩ (.slice A' n' c')):KN w0 w7 kb A' n' c' (X++[y]) R n2 c2 Y:=by
 subst hw
 have hs5:=hb5.size
 have hs0:=h.kp.size
 have hkb:=h.lt
 have k1:Keep (fun g=>(Value.slice F n1 c1).ownBlock=some g) w w6:=(Keep.of_below (hb5.alloc hs5 o)).trans (Keep.grown hg fun _ h=>h) fun _ h=>.inl h
 have k2:Keep (fun g=>g=kb) w6 (w6.setCell ⟨kb,0,none⟩ (.slice A' n' c')):=Keep.set w6 0 _ rfl
 refine⟨(k1.blk h.blk fun hk=>?_).set 0 _,?_,?_,fun g hg1 hg2=>?_,(h.kp.trans k1 fun g hg=>.inr (h.o1.lt g hg).1).trans k2 fun _ h=>.inl h,hkb⟩
 ·have:=h.o1.lt kb hk;omega
 ·rw [←Uu]
  exact k2.own hown fun g hg1 hg2=>by have:=hown.lt g hg1;omega
 ·exact k2.own (k1.own h.o2 fun g hg1 hg2=>h.ne g hg2 hg1) fun g hg1 hg2=>by have:=h.o2.lt g hg1;omega
 ·rcases hat with h1|h1
  ·exact h.ne g (h1▸hg1) hg2
  ·rw [h1] at hg1
   injection hg1 with hg1
   rw [Ms] at hg1
   have:=h.o2.lt g hg2
   omega
theorem KN.next2 (h:KN w0 w kb F n1 c1 X R n2 c2 Y) (hb5:Bw w w5) (hown:w6.ownsRow w0.heap.size 3 1 (.slice A' n' c') n' (i64n Y++i64n [y])) (hg:(w5.alloc o).grownBy w6 (Value.slice R n2 c2).ownBlock)
 (hat:(Value.slice A' n' c').ownBlock=(Value.slice R n2 c2).ownBlock∨(Value.slice A' n' c').ownBlock=some (w5.alloc o).heap.size) (hw:w7=w6.setCell ⟨kb,1,none⟩ (.slice A' n' c')):KN w0 w7 kb F n1 c1 X A' n' c' (Y++[y]):=by
 subst hw
 have hs5:=hb5.size
 have hs0:=h.kp.size
 have hkb:=h.lt
 have k1:Keep (fun g=>(Value.slice R n2 c2).ownBlock=some g) w w6:=(Keep.of_below (hb5.alloc hs5 o)).trans (Keep.grown hg fun _ h=>h) fun _ h=>.inl h
 have k2:Keep (fun g=>g=kb) w6 (w6.setCell ⟨kb,1,none⟩ (.slice A' n' c')):=Keep.set w6 1 _ rfl
 refine⟨(k1.blk h.blk fun hk=>?_).set 1 _,?_,?_,fun g hg1 hg2=>?_,(h.kp.trans k1 fun g hg=>.inr (h.o2.lt g hg).1).trans k2 fun _ h=>.inl h,hkb⟩
 ·have:=h.o2.lt kb hk;omega
 ·exact k2.own (k1.own h.o1 fun g hg1 hg2=>h.ne g hg1 hg2) fun g hg1 hg2=>by have:=h.o1.lt g hg1;omega
 ·rw [←Uu]
  exact k2.own hown fun g hg1 hg2=>by have:=hown.lt g hg1;omega
 ·rcases hat with h1|h1
  ·exact h.ne g hg1 (h1▸hg2)
  ·rw [h1] at hg2
   injection hg2 with hg2
   rw [Ms] at hg2
   have:=h.o1.lt g hg1
   omega
theorem KN.mid (h:KN w0 w kb F n1 c1 X R n2 c2 Y) (hb5:Bw w w5) {v:Value} (hg:(w5.alloc o).grownBy w6 v.ownBlock) (hv:v=.slice F n1 c1∨v=.slice R n2 c2) :
 w6.cell? ⟨kb,0,none⟩=some (.slice F n1 c1)∧w6.cell? ⟨kb,1,none⟩=some (.slice R n2 c2)∧w6.frozen? ⟨kb,0,none⟩=false∧w6.frozen? ⟨kb,1,none⟩=false:=by
 have hs5:=hb5.size
 have hkb:=h.lt
 have k1:Keep (fun g=>v.ownBlock=some g) w w6:=(Keep.of_below (hb5.alloc hs5 o)).trans (Keep.grown hg fun _ h=>h) fun _ h=>.inl h
 have hB:=k1.blk h.blk fun hk=>by
  rcases hv with rfl|rfl
  ·have:=h.o1.lt kb hk;omega
  ·have:=h.o2.lt kb hk;omega
 exact⟨hB.cell rfl,hB.cell rfl,hB.frozen 0,hB.frozen 1⟩
end
theorem KN.below {w0 w w':World} {kb n1 c1 n2 c2:Nat} {F R:Option Addr} {X Y:List Nat} (h:KN w0 w kb F n1 c1 X R n2 c2 Y) (hb:Bw w w'):KN w0 w' kb F n1 c1 X R n2 c2 Y:=
 ⟨h.blk.below hb,own_below h.o1 hb,own_below h.o2 hb,h.ne,h.kp.trans (Keep.of_below (F:=fun g=>g=kb) hb) fun _ h=>.inl h,h.lt⟩
theorem Ku {w:World} {kb b i:Nat} {t:TypeId} {v1 v2:Value} {y:Int} (hB:Blk w kb t [v1,v2]) (h1:∀x,v1≠.int .i64 x) (h2:∀x,v2≠.int .i64 x) (hc:w.cell? ⟨b,i,none⟩=some (.int .i64 y)):b≠kb:=by
 rintro rfl
 rw [cell_of_row w b i _ _ _ hB] at hc
 match i,hc with
 | 0,hc=>exact h1 y (by simpa using hc)
 | 1,hc=>exact h2 y (by simpa using hc)
 | n+2,hc=>simp at hc
theorem Ln {w0 w:World} {kb b o n c:Nat} {xs:List Nat} (hA:Rd w0 (some ⟨b,o,none⟩) n c (i64n xs)) (k:Keep (fun g=>g=kb) w0 w) (hne:b≠kb) {j y:Nat} (hj:j<n) (hy:xs.getD j 0=y):w.cell? ⟨b,o+j,none⟩=some (.int .i64 (y:Nat)):=by
 obtain⟨b',o',he,hc⟩:=W7 (k.rd hA fun _ b' o' h hk=>by injection h with h;injection h with h _;exact hne (h.trans hk)) hj
 injection he with he
 injection he with h1 h2
 subst h1 h2 hy
 exact hc
theorem qx7 (w:World):Calls Tryz.prog 156 #[] w fun e w'=>∃F c1 R c2,e=.returned (.agg #[.slice F 8 c1,.slice R 64 c2])∧Rd w' F 8 c1 (i64n w0.list)∧Rd w' R 64 c2 (i64n KT)∧Bw w w':=by
 obtain⟨i0,hi0,hz0,hz1,hz2⟩:=info_parts info64
 go_enter Tryz.func156,Tryz.ntmps156
 go_wp2_with (go_at_call 184;refine (primes_any _).mono ?_;rintro e w4 ⟨A,c,rfl,hA,hb4⟩)
 have hB0:=((Blk.new w 224 [.slice none 0 0,.slice none 0 0]).alloc (.cells #[.slice none 0 0,.slice none 0 0] 224)).below hb4
 have hB1:=(Blk.new (w.alloc (.cells #[.slice none 0 0,.slice none 0 0] 224)) 224 [.slice none 0 0,.slice none 0 0]).below hb4
 rw [Ms] at hB1
 have hw4:Bw w w4:=(((Mb _ _).alloc (Mr _) (.cells #[.slice none 0 0,.slice none 0 0] 224)).alloc (by rw [Ms];omega) (.cells #[.slice none 0 0,.slice none 0 0] 224)).trans (hb4.mono (by rw [Ms,Ms];omega))
 obtain⟨b,o,hA0,hcell⟩:=Rd.at_ hA (k:=0) (by omega)
 subst hA0
 have hne:b≠w.heap.size+1:=Ku hB1 (fun x h=>by cases h) (fun x h=>by cases h) (show w4.cell? ⟨b,o+0,none⟩=some (.int .i64 ((2:Nat):Int)) from hcell)
 have hlt4:=hB1.lt
 obtain⟨kb,hkb⟩:∃kb,kb=w.heap.size+1:=⟨_,rfl⟩
 rw [←hkb] at hB1 hne hlt4 ⊢
 have HK0:=Hz (show KN w4 w4 kb none 0 0 [] none 0 0 [] from⟨hB1,⟨rfl,.inl ⟨rfl,rfl⟩⟩,⟨rfl,.inl ⟨rfl,rfl⟩⟩,(fun g h=>by cases h),Keep.refl _ _,hlt4⟩)
 have HA:=Hz hA
 have HB0:=Hz hB0
 have HW4:=Hz hw4
 have HKB:=Hz hkb
 clear hA hB0 hB1 hb4 hw4 hkb hcell
 go_loopw [3] (fun i wr=>∃(k:Nat) (F R:Option Addr) (n1 c1 n2 c2:Nat),k≤64∧i=.int .i64 k∧Hid (n1=min k 8)∧Hid (n2=k)∧Hid (KN w4 wr kb F n1 c1 (w0.list.take k) R n2 c2 (KT.take k))) (fun i _=>64-(intOf i).toNat)
 case atStart=>exact⟨0,none,none,0,0,0,0,by omega,rfl,Hz rfl,Hz rfl,HK0⟩
 case round=>
  obtain⟨k,F,R,n1,c1,n2,c2,hk,rfl,hn1,hn2,HK⟩:=hrel
  clear HK0
  by_cases hlt:k<64
  ·have hki:(k:Int)<64:=by omega
   obtain⟨pk,hpk⟩:∃p,PL.getD k 0=p:=⟨_,rfl⟩
   have hn2':n2≤64:=by have:=hn2.o;omega
   obtain⟨y3,hy3⟩:∃y,KT.getD k 0=y:=⟨_,rfl⟩
   have HR3:=Hz (show ∀w,Calls Tryz.prog 185 #[.int .i64 (pk:Nat),.int .i64 3] w fun e w'=>e=.returned (.int .i64 (y3:Nat))∧Bw w w' from fun w=>by rw [←hpk,←hy3];exact root3 k hlt w)
   have HT3:=Hz (show KT.take (k+1)=KT.take k++[y3] by
    have hl:k<KT.length:=by rw [qqf];exact hlt
    rw [List.take_succ_eq_append_getElem hl,←hy3,Mg,Mq hl];rfl)
   by_cases h8:k<8
   ·have h8i:(k:Int)<8:=by omega
    obtain⟨y2,hy2⟩:∃y,w0.list.getD k 0=y:=⟨_,rfl⟩
    have HR2:=Hz (show ∀w,Calls Tryz.prog 185 #[.int .i64 (pk:Nat),.int .i64 2] w fun e w'=>e=.returned (.int .i64 (y2:Nat))∧Bw w w' from fun w=>by rw [←hpk,←hy2];exact root2 k h8 w)
    have HT2:=Hz (show w0.list.take (k+1)=w0.list.take k++[y2] by
     have hl:k<w0.list.length:=h8
     rw [List.take_succ_eq_append_getElem hl,←hy2,Mg,Mq hl];rfl)
    have kp:=Ln HA.o HK.o.kp hne hlt hpk
    have k1a:=HK.o.blk.cell (i:=0) rfl
    have HKda:=Hz (HK.o.below ((Mb _ _).drew))
    have hsza:=HK.o.kp.size
    have hlka:kb<wr.drew.heap.size:=HK.o.blk.lt
    have hn1':n1≤8:=by have:=hn1.o;omega
    obtain⟨Y,hY⟩:∃Y,Y=KT.take k:=⟨_,rfl⟩
    obtain⟨X,hX⟩:∃X,X=w0.list.take k:=⟨_,rfl⟩
    rw [←hY,←hX] at HKda
    rw [←hY] at HT3
    rw [←hX] at HT2
    have HPK:=Hz hpk
    clear hpk hy2 hy3 hY hX HK
    go_wp2
    go_region_law (first
     | (rw [if_pos (by rfl)];go_simp;refine (HR2.o _).mono ?_;rintro e w5a ⟨rfl,hb5a⟩;have k5a:=(hb5a.cell (p:=⟨kb,0,none⟩) hlka).trans k1a;have k5aa:=((Mb w5a.heap.size w5a).alloc (Mr _) (.cells #[.int .i64 (y2:Nat)] 3)).cell (p:=⟨kb,0,none⟩) (by have:=hb5a.size;simp;omega) |>.trans k5a;have HB5a:=Hz hb5a;clear hb5a;go_wp2_with fail)
     | (rw [if_pos (by rfl)];refine Q9 (.tmp 13) (.tmp 19) 62 rfl w4.heap.size 3 i0 _ 1 8 Tryz.underlying62 hi0 hz0 hz1 hz2 rfl (by omega) (.slice F n1 c1) n1 (i64n X) rfl (own_below HKda.o.o1 (HB5a.o.alloc HB5a.o.size _)) ⟨w5a.heap.size,0,none⟩ 1 1 (i64n [y2]) rfl rfl (by intro j u hj;exact new_one w5a (.int .i64 (y2:Nat)) 3 j u hj) (i64n_one _) (by unfold maxLen;omega) (by omega) (by have:=HB5a.o.size;simp;(have h:w4.heap.size≤wr.drew.heap.size:=hsza);omega) ?_;intro A6a n6a c6a w6a hn6a hown6a hg6a hat6a;have Hg6a:=Hz hg6a;obtain⟨m0a,m1a,f0a,f1a⟩:=KN.mid HKda.o HB5a.o hg6a (.inl rfl);clear hg6a))
    all_goals
     have HKn:=Hz (KN.next1 HKda.o HB5a.o hown6a.o Hg6a.o hat6a.o rfl)
     go_wp2
     obtain⟨wz,hwz⟩:∃wz,wz=w6a.setCell ⟨kb,0,none⟩ (.slice A6a n6a c6a):=⟨_,rfl⟩
     rw [←hwz] at HKn ⊢
     clear hwz kp k1a k5a k5aa m0a m1a f0a f1a hlka hsza
     have kp:=Ln HA.o HKn.o.kp hne hlt HPK.o
     have k1:=HKn.o.blk.cell (i:=1) rfl
     have HKd:=Hz (HKn.o.below ((Mb _ _).drew))
     have hsz:=HKn.o.kp.size
     have hlk:kb<wz.drew.heap.size:=HKn.o.blk.lt
     go_region_law (first
     | (rw [if_pos (by rfl)];go_simp;refine (HR3.o _).mono ?_;rintro e w5 ⟨rfl,hb5⟩;have k5:=(hb5.cell (p:=⟨kb,1,none⟩) hlk).trans k1;have k5a:=((Mb w5.heap.size w5).alloc (Mr _) (.cells #[.int .i64 (y3:Nat)] 3)).cell (p:=⟨kb,1,none⟩) (by have:=hb5.size;simp;omega) |>.trans k5;have HB5:=Hz hb5;clear hb5;go_wp2_with fail)
     | (rw [if_pos (by rfl)];refine Q9 (.tmp 23) (.tmp 29) 62 rfl w4.heap.size 3 i0 _ 1 8 Tryz.underlying62 hi0 hz0 hz1 hz2 rfl (by omega) (.slice R n2 c2) n2 (i64n Y) rfl (own_below HKd.o.o2 (HB5.o.alloc HB5.o.size _)) ⟨w5.heap.size,0,none⟩ 1 1 (i64n [y3]) rfl rfl (by intro j u hj;exact new_one w5 (.int .i64 (y3:Nat)) 3 j u hj) (i64n_one _) (by unfold maxLen;omega) (by omega) (by have:=HB5.o.size;simp;(have h:w4.heap.size≤wz.drew.heap.size:=hsz);omega) ?_;intro A6 n6 c6 w6 hn6 hown6 hg6 hat6;have Hg6:=Hz hg6;obtain⟨m0,m1,f0,f1⟩:=KN.mid HKd.o HB5.o hg6 (.inr rfl);clear hg6))
     all_goals
      go_wp2
      go_roundw
      case rel=>
       have hNx:=KN.next2 HKd.o HB5.o hown6.o Hg6.o hat6.o rfl
       exact⟨k+1,A6a,A6,n6a,c6a,n6,c6,by omega,by go_num,Hz (by have:=hn1.o;have:=hn6a.o;omega),Hz (by have:=hn6.o;have:=hn2.o;omega),Hz (by rw [HT2.o,HT3.o];exact hNx)⟩
      case measure=>simp [intOf];omega
   ·have h8i : ¬(k:Int)<8:=by omega
    have HX:=Hz (show w0.list.take (k+1)=w0.list.take k by rw [Mt (show w0.list.length≤k+1 by show 8≤k+1;omega),Mt (show w0.list.length≤k by show 8≤k;omega)])
    have kp:=Ln HA.o HK.o.kp hne hlt hpk
    have k1:=HK.o.blk.cell (i:=1) rfl
    have HKd:=Hz (HK.o.below ((Mb _ _).drew))
    have hsz:=HK.o.kp.size
    have hlk:kb<wr.drew.heap.size:=HK.o.blk.lt
    obtain⟨Y,hY⟩:∃Y,Y=KT.take k:=⟨_,rfl⟩
    rw [←hY] at HKd HT3
    clear hpk hy3 hY HK
    go_wp2
    go_region_law (first
     | (rw [if_pos (by rfl)];go_simp;refine (HR3.o _).mono ?_;rintro e w5 ⟨rfl,hb5⟩;have k5:=(hb5.cell (p:=⟨kb,1,none⟩) hlk).trans k1;have k5a:=((Mb w5.heap.size w5).alloc (Mr _) (.cells #[.int .i64 (y3:Nat)] 3)).cell (p:=⟨kb,1,none⟩) (by have:=hb5.size;simp;omega) |>.trans k5;have HB5:=Hz hb5;clear hb5;go_wp2_with fail)
     | (rw [if_pos (by rfl)];refine Q9 (.tmp 23) (.tmp 29) 62 rfl w4.heap.size 3 i0 _ 1 8 Tryz.underlying62 hi0 hz0 hz1 hz2 rfl (by omega) (.slice R n2 c2) n2 (i64n Y) rfl (own_below HKd.o.o2 (HB5.o.alloc HB5.o.size _)) ⟨w5.heap.size,0,none⟩ 1 1 (i64n [y3]) rfl rfl (by intro j u hj;exact new_one w5 (.int .i64 (y3:Nat)) 3 j u hj) (i64n_one _) (by unfold maxLen;omega) (by omega) (by have:=HB5.o.size;simp;(have h:w4.heap.size≤wr.drew.heap.size:=hsz);omega) ?_;intro A6 n6 c6 w6 hn6 hown6 hg6 hat6;have Hg6:=Hz hg6;obtain⟨_,m1,_,f1⟩:=KN.mid HKd.o HB5.o hg6 (.inr rfl);clear hg6))
    all_goals
     go_wp2
     go_roundw
     case rel=>
      have hNx:=KN.next2 HKd.o HB5.o hown6.o Hg6.o hat6.o rfl
      exact⟨k+1,F,A6,n1,c1,n6,c6,by omega,by go_num,Hz (by have:=hn1.o;omega),Hz (by have:=hn6.o;have:=hn2.o;omega),Hz (by rw [HX.o,HT3.o];exact hNx)⟩
     case measure=>simp [intOf];omega
  ·obtain rfl:k=64:=by omega
   have h1:n1=8:=by have:=hn1.o;omega
   have h2:n2=64:=hn2.o
   subst h1 h2
   have hob:w.heap.size≠kb:=by have:=HKB.o;omega
   have hobl:=HB0.o.lt
   have hbo:=HK.o.kp.blk HB0.o hob
   have kc0:=HK.o.blk.cell (i:=0) rfl
   have kc1:=HK.o.blk.cell (i:=1) rfl
   have b0:=hbo.cell (i:=0) rfl
   have b1:=hbo.cell (i:=1) rfl
   have bf0:=hbo.frozen 0
   have bf1:=hbo.frozen 1
   have HB4:=Hz (HW4.o.trans (HK.o.kp.below (fun g hg=>by have:=HKB.o;omega) HW4.o.size))
   have e0:(wr.setCell ⟨w.heap.size,0,none⟩ (.slice F 8 c1)).cell? ⟨w.heap.size,0,none⟩=some (.slice F 8 c1):=(hbo.set 0 _).cell rfl
   have e1:((wr.setCell ⟨w.heap.size,0,none⟩ (.slice F 8 c1)).setCell ⟨w.heap.size,1,none⟩ (.slice R 64 c2)).cell? ⟨w.heap.size,1,none⟩=some (.slice R 64 c2):=((hbo.set 0 _).set 1 _).cell rfl
   have kw:Keep (fun g=>g=w.heap.size) wr ((wr.setCell ⟨w.heap.size,0,none⟩ (.slice F 8 c1)).setCell ⟨w.heap.size,1,none⟩ (.slice R 64 c2)):=(Keep.set (F:=fun g=>g=w.heap.size) (g:=w.heap.size) wr 0 _ rfl).trans (Keep.set (F:=fun g=>g=w.heap.size) (g:=w.heap.size) _ 1 _ rfl) fun _ h=>.inl h
   have HF:=Hz (Rd.own (kw.own HK.o.o1 fun g h1 h2=>by have:=HK.o.o1.lt g h1;omega))
   have HR:=Hz (Rd.own (kw.own HK.o.o2 fun g h1 h2=>by have:=HK.o.o2.lt g h1;omega))
   have HE:=Hz (HB4.o.trans (kw.below (fun g hg=>Nat.le_of_eq hg.symm) HB4.o.size))
   have ht1:w0.list.take 64=w0.list:=rfl
   have ht2:KT.take 64=KT:=Mt (by rw [qqf];omega)
   rw [ht1] at HF
   rw [ht2] at HR
   clear ht1 ht2 kw hbo
   go_wp2
   (try simp only [Exit.inBlock,Exit.then])
   refine bodyPost_ret (v:=.agg #[.slice F 8 c1,.slice R 64 c2]) (by simp [results,Tryz.results156,go_sem,e0,e1]) rfl ?_
   exact⟨F,c1,R,c2,rfl,HF.o,HR.o,HE.o⟩
end RefK
end Go.Proofs.YtpidbddllnidhaaGreatDoor
