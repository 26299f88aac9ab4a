/- Parts of the proof, each under the conditions that it names. -/
import Derived.Test.YtpidbddllnidhaaGreatDoorO07
set_option maxRecDepth 100000
set_option maxHeartbeats 12800000
namespace Go.Proofs.YtpidbddllnidhaaGreatDoor
open Go.RowKit
namespace RefF
open Kit ShaM RefA
theorem turn_any (x k:Nat) (w:World) (hx:x<4294967296) (hk:0<k) (hk2:k<32):Calls Tryz.prog 199 #[.int .i64 (x:Nat),.int .i64 (k:Nat)] w fun e w'=>e=.returned (.int .i64 (rt x k:Nat))∧w'=w.drew:=by
 obtain⟨p,hp⟩:∃p,p=2 ^ k:=⟨_,rfl⟩
 obtain⟨q,hq⟩:∃q,q=2 ^ (32-k):=⟨_,rfl⟩
 have hpq:p*q=4294967296:=by rw [hp,hq,←Nat.pow_add,Nat.add_sub_cancel' (by omega)]
 have hp1:0<p:=by rw [hp];exact Nat.two_pow_pos k
 have hq1:0<q:=by rw [hq];exact Nat.two_pow_pos _
 have hE:rt x k=x/p+x%p*q:=by rw [rt,hp,hq]
 have hl:=rt_lt (k:=k) hx (by omega)
 obtain⟨d,hd⟩:∃d,d=x/p:=⟨_,rfl⟩
 obtain⟨r,hr⟩:∃r,r=x%p:=⟨_,rfl⟩
 obtain⟨u,hu⟩:∃u,u=r*q:=⟨_,rfl⟩
 rw [hE,←hd,←hr,←hu] at hl
 have HE:=Hz (show rt x k=d+u by rw [hE,hd,hu,hr])
 have hP:=fun w=>Xq k w (by omega)
 have hQ:=fun w=>Xq (32-k) w (by omega)
 rw [←hp] at hP
 rw [←hq] at hQ
 have e2:IntKind.i64.wrap ((32:Int)-(k:Int))=((32-k:Nat):Int):=by rw [Mi_];omega
 have e3:((x:Nat):Int).tdiv (p:Int)=(d:Int):=by rw [Int.tdiv_eq_ediv_of_nonneg (by omega),hd,Int.natCast_ediv]
 have e4:((x:Nat):Int).tmod (p:Int)=(r:Int):=by rw [Int.tmod_eq_emod_of_nonneg (by omega),hr,Int.natCast_emod]
 have e5:IntKind.i64.wrap ((r:Int)*(q:Int))=(u:Int):=by rw [←Int.natCast_mul,←hu,Mi_];omega
 have e6:IntKind.i64.wrap ((d:Int)+(u:Int))=((d+u:Nat):Int):=by rw [Mi_];omega
 have e7:IntKind.i64.wrap (d:Int)=(d:Int):=by rw [Mi_];omega
 have hp0:p≠0:=by omega
 clear hp hq hE hd hr hu
 generalize rt x k=y at *
 go_enter Tryz.func199,Tryz.ntmps199
 go_wp2_with (go_at_call 182;refine (hP _).mono ?_;rintro e w' ⟨rfl,rfl⟩)
 go_still_tail 11,(by kernel_rfl)
 refine wpStill_step (fun K hK=>?_)
 go_simp
 refine⟨_,(hQ _).mono (fun e w' h=>⟨h.1,h.2.symm⟩),hK _ ?_⟩
 clear hK K
 repeat still_step
 refine wpStill_nil ?_
 change wpList _ _ _ _ _ w.drew
 go_wp2
 go_ret
 exact⟨Qg (by rw [HE.o];omega),rfl⟩
def mx (x a b c:Nat):Nat:=rt x a^^^rt x b^^^rt x c
theorem mx_lt {x a b c:Nat} (hx:x<4294967296) (ha:a≤32) (hb:b≤32) (hc:c≤32):mx x a b c<4294967296:=by
 have h1:=rt_lt (k:=a) hx ha
 have h2:=rt_lt (k:=b) hx hb
 have h3:=rt_lt (k:=c) hx hc
 exact Nat.xor_lt_two_pow (n:=32) (Nat.xor_lt_two_pow (n:=32) h1 h2) h3
theorem mix_any (x a b c:Nat) (w:World) (hx:x<4294967296) (ha:0<a) (ha2:a<32) (hb:0<b) (hb2:b<32) (hc:0<c) (hc2:c<32) :
 Calls Tryz.prog 200 #[.int .i64 (x:Nat),.int .i64 (a:Nat),.int .i64 (b:Nat),.int .i64 (c:Nat)] w fun e w'=>e=.returned (.int .i64 (mx x a b c:Nat))∧w'=w.drewN 3:=by
 have h1:=rt_lt (k:=a) hx (by omega)
 have h2:=rt_lt (k:=b) hx (by omega)
 have h3:=rt_lt (k:=c) hx (by omega)
 have e1:=Yn h1 h2
 have e2:=Yn (Nat.xor_lt_two_pow (n:=32) h1 h2) h3
 have HE:Hid (mx x a b c=rt x a^^^rt x b^^^rt x c):=Hz rfl
 have HA:=fun w=>turn_any x a w hx ha ha2
 have HB:=fun w=>turn_any x b w hx hb hb2
 have HC:=fun w=>turn_any x c w hx hc hc2
 generalize mx x a b c=y at *
 generalize rt x a=ra at *
 generalize rt x b=rb at *
 generalize rt x c=rc at *
 obtain⟨z,hz⟩:∃z,z=ra^^^rb:=⟨_,rfl⟩
 rw [←hz] at HE e1 e2
 obtain⟨v,hv⟩:∃v,v=z^^^rc:=⟨_,rfl⟩
 rw [←hv] at HE e2
 clear hz hv
 go_enter Tryz.func200,Tryz.ntmps200
 go_wp2_with fail
 refine (HA _).mono ?_
 rintro e w' ⟨rfl,rfl⟩
 go_wp2_with fail
 refine (HB _).mono ?_
 rintro e w' ⟨rfl,rfl⟩
 go_wp2_with fail
 refine (HC _).mono ?_
 rintro e w' ⟨rfl,rfl⟩
 go_wp2
 go_ret
 exact⟨Qg (by rw [HE.o]),rfl⟩
end RefF
namespace RefI
open Kit Byt ShaM RefA RefB RefF
theorem mix_q (x a b c G:Nat) (w:World) (hx:x<4294967296) (ha:0<a) (ha2:a<32) (hb:0<b) (hb2:b<32) (hc:0<c) (hc2:c<32) (hG:mx x a b c=G) (m:Nat) :
 Calls Tryz.prog 200 #[.int .i64 (x:Nat),.int .i64 (a:Nat),.int .i64 (b:Nat),.int .i64 (c:Nat)] (w.drewN m) fun e w'=>e=.returned (.int .i64 (G:Nat))∧∃k,w'=w.drewN k:=by
 rw [←hG]
 exact (mix_any x a b c (w.drewN m) hx ha ha2 hb hb2 hc hc2).mono fun e w' h=>⟨h.1,m+3,by rw [h.2,World.drewN_drewN]⟩
theorem mix_q1 (x G:Nat) (w:World) (hx:x<4294967296) (hG:mx x 6 11 25=G) (m:Nat) :
 Calls Tryz.prog 200 #[.int .i64 (x:Nat),.int .i64 6,.int .i64 11,.int .i64 25] (w.drewN m) fun e w'=>e=.returned (.int .i64 (G:Nat))∧∃k,w'=w.drewN k:=
 mix_q x 6 11 25 G w hx (by decide) (by decide) (by decide) (by decide) (by decide) (by decide) hG m
theorem mix_q0 (x G:Nat) (w:World) (hx:x<4294967296) (hG:mx x 2 13 22=G) (m:Nat) :
 Calls Tryz.prog 200 #[.int .i64 (x:Nat),.int .i64 2,.int .i64 13,.int .i64 22] (w.drewN m) fun e w'=>e=.returned (.int .i64 (G:Nat))∧∃k,w'=w.drewN k:=
 mix_q x 2 13 22 G w hx (by decide) (by decide) (by decide) (by decide) (by decide) (by decide) hG m
theorem mod_q (n r:Nat) (w:World) (hr:n%4294967296=r) (m:Nat):Calls Tryz.prog 198 #[.int .i64 (n:Nat)] (w.drewN m) fun e w'=>e=.returned (.int .i64 (r:Nat))∧∃k,w'=w.drewN k:=by
 rw [←hr]
 exact (mod_any n (w.drewN m)).mono fun e w' h=>⟨h.1,m,h.2.symm⟩
structure Cs (w:World) (kb db dO sb sO vb vo k p:Nat) (u:W8) (x y:Nat):Prop where
 c0:w.cell? ⟨vb,vo,none⟩=some (.int .i64 (u.a:Nat))
 c1:w.cell? ⟨vb,vo+1,none⟩=some (.int .i64 (u.b:Nat))
 c2:w.cell? ⟨vb,vo+2,none⟩=some (.int .i64 (u.c:Nat))
 c3:w.cell? ⟨vb,vo+3,none⟩=some (.int .i64 (u.d:Nat))
 c4:w.cell? ⟨vb,vo+4,none⟩=some (.int .i64 (u.e:Nat))
 c5:w.cell? ⟨vb,vo+5,none⟩=some (.int .i64 (u.f:Nat))
 c6:w.cell? ⟨vb,vo+6,none⟩=some (.int .i64 (u.g:Nat))
 c7:w.cell? ⟨vb,vo+7,none⟩=some (.int .i64 (u.h:Nat))
 kc:w.cell? ⟨kb,1,none⟩=some (.slice (some ⟨db,dO,none⟩) 64 p)
 dk:w.cell? ⟨db,dO+k,none⟩=some (.int .i64 (x:Nat))
 sk:w.cell? ⟨sb,sO+k,none⟩=some (.int .i64 (y:Nat))
theorem rd_nk {w:World} {b o n c:Nat} {xs:List Nat} (h:Rd w (some ⟨b,o,none⟩) n c (i64n xs)) {k y:Nat} (hk:k<n) (hy:xs.getD k 0=y):w.cell? ⟨b,o+k,none⟩=some (.int .i64 (y:Nat)):=by
 obtain⟨b',o',he,hc⟩:=W7 h hk
 injection he with he
 injection he with h1 h2
 subst h1 h2 hy
 exact hc
theorem Cs.of {w:World} {kb db dO sb sO vb vo k p e q c:Nat} {u:W8} {S:List Nat} {x y:Nat} (hk:k<64) (hV:Rd w (some ⟨vb,vo,none⟩) 8 e (i64n u.list)) (hc:w.cell? ⟨kb,1,none⟩=some (.slice (some ⟨db,dO,none⟩) 64 p))
 (hK:Rd w (some ⟨db,dO,none⟩) 64 q (i64n KT)) (hS:Rd w (some ⟨sb,sO,none⟩) 64 c (i64n S)) (hx:KT.getD k 0=x) (hy:S.getD k 0=y):Cs w kb db dO sb sO vb vo k p u x y:=
 ⟨rd_nk hV (k:=0) (by omega) rfl,rd_nk hV (k:=1) (by omega) rfl,rd_nk hV (k:=2) (by omega) rfl,rd_nk hV (k:=3) (by omega) rfl,rd_nk hV (k:=4) (by omega) rfl,rd_nk hV (k:=5) (by omega) rfl,rd_nk hV (k:=6) (by omega) rfl,rd_nk hV (k:=7) (by omega) rfl,hc,rd_nk hK hk hx,rd_nk hS hk hy⟩
theorem Cs.drewN {w:World} {kb db dO sb sO vb vo k p:Nat} {u:W8} {x y:Nat} (h:Cs w kb db dO sb sO vb vo k p u x y) (n:Nat):Cs (w.drewN n) kb db dO sb sO vb vo k p u x y:=
 ⟨h.c0,h.c1,h.c2,h.c3,h.c4,h.c5,h.c6,h.c7,h.kc,h.dk,h.sk⟩
theorem eight_rd (w:World) (a b c d e f g h:Nat):Rd (w.alloc (.cells #[.int .i64 (a:Nat),.int .i64 (b:Nat),.int .i64 (c:Nat),.int .i64 (d:Nat),.int .i64 (e:Nat),.int .i64 (f:Nat),.int .i64 (g:Nat),.int .i64 (h:Nat)] 3)) (some ⟨w.heap.size,0,none⟩) 8 8 (i64n [a,b,c,d,e,f,g,h]):=
 blk_rd (g:=w.heap.size) (t:=3) (bs:=[a,b,c,d,e,f,g,h]) (heap_alloc_new w _) (show (8:Nat)≤9223372036854775807 by omega)
theorem qx8 (u:W8) (x y:Nat) (X Y:Nat) (hX:X=(u.h+g1 u.e+ch u.e u.f u.g+x+y)%4294967296) (hY:Y=(g0 u.a+mj u.a u.b u.c)%4294967296) :
 (rnd u (x+y)).list=[(X+Y)%4294967296,u.a,u.b,u.c,(u.d+X)%4294967296,u.e,u.f,u.g]:=by
 have h1:(x+y+low u+high u)%4294967296=(X+Y)%4294967296:=by unfold low high;omega
 have h2:(u.d+(x+y+low u))%4294967296=(u.d+X)%4294967296:=by unfold low;omega
 show [(x+y+low u+high u)%4294967296,u.a,u.b,u.c,(u.d+(x+y+low u))%4294967296,u.e,u.f,u.g]=_
 rw [h1,h2]
theorem qz2 (v u:W8) {k:Nat} (hk:k<8):(plus v u).list.take (k+1)=(plus v u).list.take k++[(v.list.getD k 0+u.list.getD k 0)%4294967296]:=by
 match k,hk with
 | 0,_=>rfl
 | 1,_=>rfl
 | 2,_=>rfl
 | 3,_=>rfl
 | 4,_=>rfl
 | 5,_=>rfl
 | 6,_=>rfl
 | 7,_=>rfl
theorem qz3 {v:W8} (h:v.ok) {k:Nat} (hk:k<8):v.list.getD k 0<4294967296:=by
 obtain⟨h0,h1,h2,h3,h4,h5,h6,h7⟩:=h
 match k,hk with
 | 0,_=>exact h0
 | 1,_=>exact h1
 | 2,_=>exact h2
 | 3,_=>exact h3
 | 4,_=>exact h4
 | 5,_=>exact h5
 | 6,_=>exact h6
 | 7,_=>exact h7
end RefI
end Go.Proofs.YtpidbddllnidhaaGreatDoor
