/- The parts that this claim uses of: DskU · Put1 · NumA · NumB · CrcM · RecM · BitM · BitB · BitA · BitC · StgM · RecA0 · RecAS · StgA · StgB · StgC · StoA · StgD. Conditions: those that each law names. -/
import Derived.Test.YtkepomnbhnnliaaGreatDoorK01
import Derived.Deep.Slices
import Derived.Deep.Fields
import Derived.WideShapes
import Derived.StillTail
set_option maxRecDepth 100000
set_option maxHeartbeats 12800000
namespace Go.Proofs.YtkepomnbhnnliaaGreatDoor
namespace DskF
open Go.RowKit Kit Byt Mem DskA DskB DskC DskD DskE
theorem spend_free {s:St} (h1:s.fuse<0) (h2:s.down=false):spend s=(true,s):=by
 rw [spend,if_neg (by omega),h2,if_neg (by simp),if_neg (by omega)]
def wrote (s:St) (i:Nat) (bs:List Nat):St:={ s with L:=s.L++[(i,bs)] }
theorem blk_rd {w:World} {g:Nat} {t:TypeId} {xs:List Nat} (h:Blk w g t (u8n xs)) {n:Nat} (hn:xs.length=n) (hm:n≤9223372036854775807):Rd w (some ⟨g,0,none⟩) n n (u8n xs):=
 ⟨by rw [u8n_len,hn],Nat.le_refl _,hm,fun _=>⟨g,0,rfl,h.lt,fun j u hu=>by rw [Nat.zero_add];exact h.cell hu⟩⟩
theorem mk64 (w:World):(Instr.makeSlice 52 (.int .i64 64) (.int .i64 64)).run Tryz.prog w=.ok (.slice (some ⟨w.heap.size,0,none⟩) 64 64) (w.alloc (.cells (u8n (zs 64)).toArray 5)):=by
 obtain⟨i0,hi0,hz0,hz1,hz2⟩:=info_parts info8
 have h:=run_make (P:=Tryz.prog) w 52 5 i0 _ Tryz.underlying52 hi0 hz0 .i64 .i64 64 64 (by omega) (by omega) (by rw [hz2];omega) (by omega)
 have hm:madeCells (Value.int .u8 0).cells ((64:Int).toNat*i0.size)=(u8n (zs 64)).toArray:=by
  rw [hz1]
  apply Array.ext'
  exact toList_madeCells_one (.int .u8 0) 64 |>.trans (by simp [u8n,zs])
 rw [hm] at h
 exact h
end DskF
namespace StgM
open Go.RowKit Kit Byt Mem DskA DskB DskD DskE DskF
def put1 (s:St) (i:Nat) (bs:List Nat):St×Int:=
 if (spend s).1=false then ((spend s).2,8)
 else if (spend (wrote (spend s).2 i bs)).1=false then ((spend (wrote (spend s).2 i bs)).2,8)
 else (lay (fun _=>true) (spend (wrote (spend s).2 i bs)).2,0)
structure Up0 (s:St):Prop where
 up:s.down=false
 none_:s.L=[]
 ok:s.ok
theorem spend_S (s:St):(spend s).2.S=s.S∧(spend s).2.L=s.L:=by
 unfold spend
 split
 ·exact⟨rfl,rfl⟩
 ·split
  ·exact⟨rfl,rfl⟩
  ·dsimp only
   split <;> exact⟨rfl,rfl⟩
theorem spend_no {s:St} (h:(spend s).1=false):(spend s).2.down=true:=by
 unfold spend at h ⊢
 split at h
 ·rename_i h0;rw [if_pos h0]
 ·rename_i h0
  rw [if_neg h0]
  split at h
  ·rename_i h1;rw [if_pos h1];exact h1
  ·cases h
theorem spend_yes {s:St} (h:(spend s).1=true):(spend s).2.down=false:=by
 unfold spend at h ⊢
 split at h
 ·cases h
 ·rename_i h0
  rw [if_neg h0]
  split at h
  ·cases h
  ·rename_i h1
   rw [if_neg h1]
   dsimp only
   have:s.down=false:=by simpa using h1
   split <;> exact this
theorem spend_ok {s:St} (h:s.ok):(spend s).2.ok:=by
 have h1:=h.lo
 have h2:=h.hi
 unfold spend
 split
 ·exact⟨h.pos,h.most,h.sec,h.wait,h1,h2⟩
 ·split
  ·exact h
  ·dsimp only
   split
   ·rename_i h3
    exact⟨h.pos,h.most,h.sec,h.wait,by show -9223372036854775808≤s.fuse-1;omega,by show s.fuse-1≤9223372036854775807;omega⟩
   ·exact h
theorem spend_down {s:St} (h:s.down=true):spend s=(false,s):=by
 have e : { s with down:=true }=s:=by rw [←h]
 unfold spend
 rw [e,if_pos h]
 split <;> rfl
theorem put1_down {s:St} (h:s.down=true) (i:Nat) (bs:List Nat):put1 s i bs=(s,8):=by
 unfold put1
 rw [spend_down h]
 rfl
theorem power_S (K:Nat) (s:St):(power K s).S=laidTo (kb K) s.S s.L s.L.length:=rfl
theorem wrote_ok {s:St} (h:s.ok) {i:Nat} {bs:List Nat} (hi:i<s.S.length) (hb:bs.length=64):(wrote s i bs).ok:=
 ⟨h.pos,h.most,h.sec,fun p hp=>by
  rcases List.mem_append.1 (show p ∈ s.L++[(i,bs)] from hp) with h1|h1
  ·exact h.wait p h1
  ·rw [List.mem_singleton.1 h1];exact⟨hi,hb⟩,h.lo,h.hi⟩
theorem lay_ok {s:St} (h:s.ok) (kp:Nat→Bool):(lay kp s).ok:=
 ⟨by show 1≤(laidTo kp s.S s.L s.L.length).length;rw [laidTo_len];exact h.pos,by show (laidTo kp s.S s.L s.L.length).length≤128;rw [laidTo_len];exact h.most,
  laidTo_sec h.sec (fun p hp=>(h.wait p hp).2) _ (Nat.le_refl _),(fun p hp=>by cases hp),h.lo,h.hi⟩
theorem put1_cases {s:St} (h:Up0 s) {i:Nat} {bs:List Nat} (hi:i<s.S.length) (hb:bs.length=64) :
 ((put1 s i bs).2=0∧Up0 (put1 s i bs).1∧(put1 s i bs).1.S=s.S.set i bs)∨
 ((put1 s i bs).2=8∧(put1 s i bs).1.down=true∧(put1 s i bs).1.ok∧(put1 s i bs).1.L.length≤1∧(∀K,(power K (put1 s i bs).1).S=s.S∨(power K (put1 s i bs).1).S=s.S.set i bs)):=by
 unfold put1
 have hok:=spend_ok h.ok
 have hS:=spend_S s
 by_cases h1:(spend s).1=false
 ·rw [if_pos h1]
  refine .inr ⟨rfl,spend_no h1,hok,by rw [hS.2,h.none_];exact Nat.zero_le 1,fun K=>.inl ?_⟩
  rw [power_S,hS.1,hS.2,h.none_]
  rfl
 ·rw [if_neg h1]
  have hw:=wrote_ok hok (i:=i) (bs:=bs) (by rw [hS.1];exact hi) hb
  have hwk:=spend_ok hw
  have hS2:=spend_S (wrote (spend s).2 i bs)
  have hL:(spend (wrote (spend s).2 i bs)).2.L=[(i,bs)]:=by rw [hS2.2];show (spend s).2.L++[(i,bs)]=_;rw [hS.2,h.none_];rfl
  have hSS:(spend (wrote (spend s).2 i bs)).2.S=s.S:=by rw [hS2.1];exact hS.1
  by_cases h2:(spend (wrote (spend s).2 i bs)).1=false
  ·rw [if_pos h2]
   refine .inr ⟨rfl,spend_no h2,hwk,by rw [hL];exact Nat.le_refl 1,fun K=>?_⟩
   rw [power_S,hL,hSS]
   show (if kb K 0 then _ else _)=_∨(if kb K 0 then _ else _)=_
   cases kb K 0
   ·exact .inl rfl
   ·exact .inr rfl
  ·rw [if_neg h2]
   refine .inl ⟨rfl,⟨spend_yes (by simpa using h2),rfl,lay_ok hwk _⟩,?_⟩
   show laidTo (fun _=>true) (spend (wrote (spend s).2 i bs)).2.S (spend (wrote (spend s).2 i bs)).2.L (spend (wrote (spend s).2 i bs)).2.L.length=_
   rw [hL,hSS]
   rfl
theorem put1_len (s:St) (i:Nat) (bs:List Nat):(put1 s i bs).1.S.length=s.S.length:=by
 unfold put1
 split
 ·rw [(spend_S s).1]
 ·split
  ·rw [(spend_S _).1]
   show (spend s).2.S.length=_
   rw [(spend_S s).1]
  ·show (laidTo _ _ _ _).length=_
   rw [laidTo_len,(spend_S _).1]
   show (spend s).2.S.length=_
   rw [(spend_S s).1]
theorem now_S {s:St} (h:s.L=[]) (i:Nat):now s i=s.S.getD i []:=by unfold now;rw [h];rfl
end StgM
namespace StgP
open Go.RowKit Kit Byt Mem DskA DskB DskD DskE DskF StgM
theorem getD_set {S:List (List Nat)} {i j:Nat} (bs:List Nat) (hi:i<S.length):(S.set i bs).getD j []=if i=j then bs else S.getD j []:=by
 rw [List.getD_eq_getElem?_getD,List.getElem?_set]
 by_cases e:i=j
 ·subst e;rw [if_pos rfl,if_pos rfl,if_pos hi];rfl
 ·rw [if_neg e,if_neg e,←List.getD_eq_getElem?_getD]
theorem power_len (K:Nat) (s:St):(power K s).S.length=s.S.length:=laidTo_len _ _ _ _
theorem len_dn {s s':St} {i m:Nat} {bs:List Nat} (h:m≤s.S.length) (hp:∀K,(power K s').S=s.S∨(power K s').S=s.S.set i bs):m≤s'.S.length:=by
 have hl:=power_len 0 s'
 rcases hp 0 with e|e
 ·rw [e] at hl;omega
 ·rw [e,List.length_set] at hl;omega
end StgP
namespace StgQ
open Go.RowKit Kit Byt Mem DskA DskB DskD DskE DskF StgM StgP
end StgQ
namespace StgJ
open Go.RowKit Kit Byt Mem DskA DskB DskD DskE DskF StgM StgP
def Free (s:St):Prop:=s.fuse<0∧s.down=false
theorem put1_free {s:St} (h:Free s) (i:Nat) (bs:List Nat):(put1 s i bs).2=0∧Free (put1 s i bs).1:=by
 have e1:=spend_free h.1 h.2
 have e2:spend (wrote s i bs)=(true,wrote s i bs):=spend_free h.1 h.2
 unfold put1
 rw [e1]
 dsimp only
 rw [if_neg (by simp),e2]
 dsimp only
 rw [if_neg (by simp)]
 exact⟨rfl,h⟩
theorem new_getD (n:Int) (i:Nat) (h:i<cnt n):(newSt n).S.getD i []=zs 64:=by
 show (List.replicate (cnt n) (zs 64)).getD i []=_
 rw [List.getD_eq_getElem?_getD,List.getElem?_replicate,if_pos h]
 rfl
theorem new_ok (n:Int):(newSt n).ok:=by
 have h1:=DskB.cnt_pos n
 have h2:=DskB.cnt_le n
 refine⟨by show 1≤(List.replicate (cnt n) (zs 64)).length;rw [List.length_replicate];exact h1,by show (List.replicate (cnt n) (zs 64)).length≤128;rw [List.length_replicate];exact h2,fun x hx=>?_,fun p hp=>(by cases hp),by show -9223372036854775808≤(-1:Int);omega,by show (-1:Int)≤9223372036854775807;omega⟩
 rw [List.eq_of_mem_replicate hx]
 exact DskB.zs_len 64
theorem new_len (n:Int):(newSt n).S.length=cnt n:=List.length_replicate
end StgJ
namespace NumA
open Go.RowKit Kit
def wd (w:Int):Nat:=(min (max w 1) 6).toNat
theorem wd_pos (w:Int):1≤wd w:=by unfold wd;omega
theorem wd_le (w:Int):wd w≤6:=by unfold wd;omega
theorem width_any (x:Int) (w:World):Calls Tryz.prog 108 #[.int .i64 x] w fun e w'=>e=.returned (.int .i64 (wd x:Nat))∧w=w':=by
 go_enter Tryz.func108,Tryz.ntmps108
 go_wp2
 all_goals (go_ret;exact⟨ret_int (by unfold wd;omega),rfl⟩)
theorem Width_any (x:Int) (w:World):Calls Tryz.prog 194 #[.int .i64 x] w fun e w'=>e=.returned (.int .i64 (wd x:Nat))∧w=w':=by
 go_enter Tryz.func194,Tryz.ntmps194
 go_wp2
 all_goals (go_ret;exact⟨ret_int (by unfold wd;omega),rfl⟩)
abbrev u8s (xs:List Int):List Value:=xs.map (Value.int .u8)
theorem u8s_one (xs:List Int):∀u ∈ u8s xs,u.oneCell'=true:=ints_oneCell _ _
theorem u8s_len (xs:List Int):(u8s xs).length=xs.length:=List.length_map ..
theorem Rd.bytes {w:World} {A:Option Addr} {n c:Nat} {xs:List Int} (h:Rd w A n c (u8s xs)):xs.length=n:=by have:=h.len;rwa [u8s_len] at this
theorem Rd.byte {w:World} {A:Option Addr} {n c:Nat} {xs:List Int} (h:Rd w A n c (u8s xs)) {k:Nat} (hk:k<xs.length):∃b o,A=some ⟨b,o,none⟩∧w.cell? ⟨b,o+k,none⟩=some (.int .u8 xs[k]):=by
 obtain⟨b,o,hA,hc⟩:=Rd.at_ h (k:=k) (by have:=Rd.bytes h;omega)
 exact⟨b,o,hA,by simpa using hc⟩
theorem info8:(Tryz.prog.info? 5).map (fun i=>(i.zero,i.size,i.bytes))=some (some (.int .u8 0),1,1):=by kernel_rfl
theorem size8:(Tryz.prog.info? 5).map (·.size)=some 1:=by kernel_rfl
def Blk8 (w:World) (g:Nat) (cs:List Int):Prop:=w.heap[g]?=some (.cells (u8s cs).toArray 5 (0,0))
section
variable {w w':World} {g:Nat} {cs:List Int}
theorem Blk8.cell (h:Blk8 w g cs) {i:Nat} (hi:i<cs.length):w.cell? ⟨g,i,none⟩=some (.int .u8 cs[i]):=by
 rw [cell_of_row w g i _ _ _ h]
 simp [u8s,hi]
theorem Blk8.frozen (h:Blk8 w g cs) (i:Nat):w.frozen? ⟨g,i,none⟩=false:=frozen_of_row w g i _ _ h
theorem Blk8.set (h:Blk8 w g cs) (i:Nat) (b:Int):Blk8 (w.setCell ⟨g,i,none⟩ (.int .u8 b)) g (cs.set i b):=by
 unfold Blk8
 rw [heap_setCell_same w g i _ _ _ h]
 simp [u8s,List.map_set]
theorem Blk8.own (h:Blk8 w g cs) {base:Nat} (hb:base≤g) (hm:cs.length≤9223372036854775807) {k:Nat} (hk:cs.length=k):w.ownsRow base 5 1 (.slice (some ⟨g,0,none⟩) k k) k (u8s cs):=by
 subst hk
 have h':=own_of_block (base:=base) (n:=cs.length) (w:=w) (g:=g) (cur:=u8s cs) h hb (by simp) (by simpa using hm)
 rw [u8s_len,List.take_of_length_le (by simp)] at h'
 exact h'
end
def Fresh (w:World) (xs:List Int) (e:Ending) (w':World):Prop:=
 ∃A n c,Hid (n=xs.length)∧e=.returned (.slice A n c)∧w'.ownsRow w.heap.size 5 1 (.slice A n c) n (u8s xs)∧Below w.heap.size w w'
theorem Fresh.of {w w':World} {xs:List Int} {A:Option Addr} {n c:Nat} (h:w'.ownsRow w.heap.size 5 1 (.slice A n c) n (u8s xs)) (hb:Below w.heap.size w w'):Fresh w xs (.returned (.slice A n c)) w':=by
 have hn:=h.1
 exact⟨A,n,c,(show _=_ by simpa using hn.symm),rfl,h,hb⟩
end NumA
namespace NumB
open Go.RowKit Kit NumA
def cl (k:Nat) (n:Int):Nat:=min n.toNat (2 ^ (8*k)-1)
def be (k m:Nat):List Int:=(List.range k).map fun i=>((m/2 ^ (8*(k-1-i))%256:Nat):Int)
theorem be_len (k m:Nat):(be k m).length=k:=by simp [be]
theorem pow_le {k:Nat} (h:k≤6):2 ^ (8*k)≤281474976710656:=by
 have:2 ^ (8*k)≤2 ^ 48:=Nat.pow_le_pow_right (by omega) (by omega)
 simpa using this
theorem pow_pos' (k:Nat):1≤2 ^ (8*k):=Nat.one_le_two_pow
def putb (n x:Int):List Int:=be (wd x) (cl (wd x) n)
theorem putb_len (n x:Int):(putb n x).length=wd x:=be_len _ _
theorem be_take {k m j:Nat} (h:j<k):(be k m).take (j+1)=(be k m).take j++[(m:Int)/2 ^ (8*(k-1-j))%256]:=by
 have hl:j<(be k m).length:=by rw [be_len];exact h
 rw [List.take_succ_eq_append_getElem hl]
 congr 2
 simp [be]
theorem u8s_app (xs ys:List Int) (b:Int):u8s (xs++(ys++[b]))=u8s (xs++ys)++[Value.int .u8 b]:=by simp [u8s]
theorem ipow (k:Nat):((2 ^ k:Nat):Int)=(2:Int) ^ k:=by rw [Int.natCast_pow];rfl
theorem cl_top {k:Nat} {n:Int} (h:(2:Int) ^ (8*k)-1<if n<0 then 0 else n):(2:Int) ^ (8*k)-1=(cl k n:Nat):=by
 have p:=pow_pos' k
 unfold cl
 rw [←ipow] at h ⊢
 split at h <;> omega
theorem cl_neg {k:Nat} {n:Int} (h:n<0):0=((cl k n:Nat):Int):=by unfold cl;omega
theorem cl_mid {k:Nat} {n:Int} (h:(if n<0 then 0 else n)≤(2:Int) ^ (8*k)-1) (h0:0≤n):n=(cl k n:Nat):=by
 have p:=pow_pos' k
 unfold cl
 rw [←ipow] at h
 split at h <;> omega
theorem int_eq {k:IntKind} {a b:Int} (h:a=b):Value.int k a=Value.int k b:=by rw [h]
theorem put_any (A:Option Addr) (m c:Nat) (xs:List Int) (n x:Int) (w:World) (hx:Rd w A m c (u8s xs)) (hl:m≤140737488351232) :
 Calls Tryz.prog 61 #[.slice A m c,.int .i64 n,.int .i64 x] w fun e w'=>Fresh w (xs++putb n x) e w':=by
 obtain rfl:=Rd.bytes hx
 obtain⟨i0,hi0,hz0,hz1,hz2⟩:=info_parts info8
 have w1:=wd_pos x
 have w2:=wd_le x
 have p1:(2:Int) ^ (8*wd x)≤281474976710656:=by have:=pow_le w2;rw [←ipow];omega
 have p2:1≤(2:Int) ^ (8*wd x):=by have:=pow_pos' (wd x);rw [←ipow];omega
 go_enter Tryz.func61,Tryz.ntmps61
 go_upto_region 2 with (go_at_call 108;refine (width_any _ _).mono ?_;rintro e w' ⟨rfl,rfl⟩)
 go_cut [1] (fun v wx=>v=.int .i64 (cl (wd x) n:Nat)∧w=wx)
 case first=>
  go_wp2
  all_goals (go_meet;case rel=>exact⟨int_eq (by first|exact cl_top ‹_› | exact cl_neg ‹_› | exact cl_mid ‹_› ‹_›),rfl⟩)
 case rest=>
  obtain⟨rfl,rfl⟩:=hcut
  go_wp2_with (first
   | (at_make;refine wpList_make_room _ rfl _ _ _ rfl 5 i0 _ 1 Tryz.underlying52 hi0 hz0 hz1 hz2 rfl _ _ _ _ xs.length (xs.length+wd x) rfl rfl (by omega) (by omega) (by omega) (by omega) (by omega) ?_;intro w1' H1 hb1 hs1)
   | (with_reducible refine wpList_copy_splice rfl (.tmp 25) (.tmp 26) _ _ rfl 5 Tryz.underlying52 size8 _ _ _ _ _ _ rfl rfl w.heap.size 0 (List.replicate (xs.length+wd x) (Value.int .u8 0)) 5 H1.out (u8s xs) (by simp) (fun h=>⟨rfl,Rd.src hx hb1 h⟩) (by simp) (u8s_one _) w.heap.size w hb1 (Nat.le_refl _) ?_;intro w2' H2 hb2))
  have hown0:w2'.ownsRow w.heap.size 5 1 (.slice (some ⟨w.heap.size,0,none⟩) xs.length (xs.length+wd x)) xs.length (u8s xs):=by
   have h:=own_of_block (base:=w.heap.size) (n:=xs.length) H2.out (Nat.le_refl _) (by rw [length_splice _ _ _ (by simp)];simp) (by rw [length_splice _ _ _ (by simp)];simp;omega)
   rw [length_splice _ _ _ (by simp),List.length_replicate] at h
   have e:(splice (List.replicate (xs.length+wd x) (Value.int .u8 0)) 0 (u8s xs)).take xs.length=u8s xs:=by
    simp [splice]
   rw [e] at h
   exact h
  go_loopw [7,29] (fun v i wr=>∃k:Nat,k≤wd x∧i=.int .i64 k∧v=.slice (some ⟨w.heap.size,0,none⟩) (xs.length+k) (xs.length+wd x)∧
   wr.ownsRow w.heap.size 5 1 (.slice (some ⟨w.heap.size,0,none⟩) (xs.length+k) (xs.length+wd x)) (xs.length+k) (u8s (xs++(be (wd x) (cl (wd x) n)).take k))∧Below w.heap.size w wr)
   (fun _ i _=>wd x-(intOf i).toNat)
  case atStart=>exact⟨0,by omega,rfl,rfl,by simpa using hown0,hb2⟩
  case round=>
   obtain⟨k,hk,rfl,rfl,hown,hb⟩:=hrel
   by_cases hlt:k<wd x
   ·go_wp2_with (at_builtin;refine wpList_append_fits _ rfl (.tmp 32) (.tmp 41) _ rfl w.heap.size 5 i0 1 Tryz.underlying52 hi0 hz1 w.heap.size (xs.length+k) (xs.length+wd x) _ rfl (hown.alloc _) ⟨wr.heap.size,0,none⟩ 1 1 [.int .u8 ((cl (wd x) n:Nat)/2 ^ (8*(wd x-1-k))%256)] rfl rfl (new_one _ _ _) (by simp [Value.oneCell']) (by omega) ?_;intro w3 hown3 hg3)
    go_roundw
    case rel=>
     refine⟨k+1,by omega,by go_num,rfl,?_,?_⟩
     ·rw [be_take hlt,u8s_app]
      exact hown3
     ·exact below_add (hb.alloc hb.size _) (hown.alloc _) (Nat.le_refl _) hg3
    case measure=>simp [intOf];omega
   ·go_wp2
    obtain rfl:k=wd x:=by omega
    go_ret
    rw [List.take_of_length_le (by rw [be_len];omega)] at hown
    exact Fresh.of hown hb
end NumB
namespace CrcM
def stp (x:Nat):Nat:=if x%2=1 then x/2^^^3988292384 else x/2
def it:Nat→Nat→Nat
 | 0,x=>x
 | k+1,x=>stp (it k x)
def s8 (x:Nat):Nat:=it 8 x
def fb (x c:Nat):Nat:=s8 (x^^^c)
def fd (x:Nat) (l:List Nat):Nat:=l.foldl fb x
def sm (l:List Nat):Nat:=4294967295-fd 4294967295 l
theorem xor_div2 (a b:Nat):(a^^^b)/2=a/2^^^b/2:=by
 have:=Nat.shiftRight_xor_distrib (a:=a) (b:=b) (i:=1)
 simpa [Nat.shiftRight_succ] using this
theorem xor_mod2 (a b:Nat):(a^^^b)%2=(a%2+b%2)%2:=by
 have:=@Nat.xor_mod_two_eq_one a b
 rcases Nat.mod_two_eq_zero_or_one a with h1|h1 <;> rcases Nat.mod_two_eq_zero_or_one b with h2|h2 <;> rcases Nat.mod_two_eq_zero_or_one (a^^^b) with h3|h3 <;> simp_all
theorem stp_lt {x:Nat} (h:x<4294967296):stp x<4294967296:=by
 unfold stp
 split
 ·exact Nat.xor_lt_two_pow (n:=32) (by omega) (by decide)
 ·omega
theorem stp_xor (a b:Nat):stp (a^^^b)=stp a^^^stp b:=by
 unfold stp
 rw [xor_div2,xor_mod2]
 rcases Nat.mod_two_eq_zero_or_one a with h1|h1 <;> rcases Nat.mod_two_eq_zero_or_one b with h2|h2 <;> simp only [h1,h2]
 ·simp
 ·simp only [if_true,Nat.reduceEqDiff,if_false,Nat.xor_assoc]
 ·simp only [if_true,Nat.reduceEqDiff,if_false]
  simp only [Nat.xor_assoc]
  rw [Nat.xor_comm (b/2)]
 ·simp only [Nat.reduceAdd,Nat.reduceMod,if_true,Nat.zero_ne_one,if_false]
  rw [Nat.xor_assoc,←Nat.xor_assoc 3988292384,Nat.xor_comm 3988292384,Nat.xor_assoc (b/2),Nat.xor_self,Nat.xor_zero]
theorem it_lt (k:Nat) {x:Nat} (h:x<4294967296):it k x<4294967296:=by
 induction k with
 | zero=>exact h
 | succ k ih=>exact stp_lt ih
theorem it_xor (k a b:Nat):it k (a^^^b)=it k a^^^it k b:=by
 induction k with
 | zero=>rfl
 | succ k ih=>show stp _=_;rw [ih,stp_xor];rfl
theorem it_succ' (k x:Nat):it (k+1) x=it k (stp x):=by
 induction k with
 | zero=>rfl
 | succ k ih=>show stp (it (k+1) x)=_;rw [ih];rfl
theorem it_even (k m:Nat):it k (2 ^ k*m)=m:=by
 induction k generalizing m with
 | zero=>simp [it]
 | succ k ih=>
   rw [it_succ']
   have e:stp (2 ^ (k+1)*m)=2 ^ k*m:=by
    unfold stp
    have h1:2 ^ (k+1)*m=2*(2 ^ k*m):=by rw [Nat.pow_succ,Nat.mul_comm (2 ^ k) 2,Nat.mul_assoc]
    rw [h1,if_neg (by omega)]
    omega
   rw [e,ih]
theorem s8_lt {x:Nat} (h:x<4294967296):s8 x<4294967296:=it_lt 8 h
theorem s8_xor (a b:Nat):s8 (a^^^b)=s8 a^^^s8 b:=it_xor 8 a b
theorem s8_high (m:Nat):s8 (256*m)=m:=it_even 8 m
theorem split8 (y:Nat):y=(256*(y/256))^^^(y%256):=by
 apply Nat.eq_of_testBit_eq
 intro i
 rw [Nat.testBit_xor,show (256:Nat)=2 ^ 8 from rfl,Nat.testBit_mod_two_pow,Nat.testBit_two_pow_mul,Nat.testBit_div_two_pow]
 by_cases h:i<8
 ·have : ¬8≤i:=by omega
  simp [h,this]
 ·have:8≤i:=by omega
  simp [h,this]
theorem fb_table {x c:Nat} (hc:c<256):fb x c=s8 ((x%256)^^^c)^^^x/256:=by
 have e1:(x^^^c)/256=x/256:=by
  have:=Nat.shiftRight_xor_distrib (a:=x) (b:=c) (i:=8)
  rw [Nat.shiftRight_eq_div_pow,Nat.shiftRight_eq_div_pow,Nat.shiftRight_eq_div_pow] at this
  have h0:c/2 ^ 8=0:=by omega
  rw [h0] at this
  simpa using this
 have e2:(x^^^c)%256=(x%256)^^^c:=by
  have:=@Nat.xor_mod_two_pow x c 8
  rw [Nat.mod_eq_of_lt (a:=c) (by omega)] at this
  exact this
 unfold fb
 conv=>lhs;rw [split8 (x^^^c)]
 rw [s8_xor,s8_high,e1,e2,Nat.xor_comm]
theorem fb_lt {x c:Nat} (hx:x<4294967296) (hc:c<256):fb x c<4294967296:=s8_lt (Nat.xor_lt_two_pow (n:=32) hx (by omega))
theorem fd_nil (x:Nat):fd x []=x:=by unfold fd;rw [List.foldl_nil]
theorem fd_cons (x c:Nat) (l:List Nat):fd x (c :: l)=fd (fb x c) l:=by unfold fd;rw [List.foldl_cons]
theorem fd_app (x:Nat) (l m:List Nat):fd x (l++m)=fd (fd x l) m:=List.foldl_append
theorem fd_snoc (x:Nat) (l:List Nat) (c:Nat):fd x (l++[c])=fb (fd x l) c:=by rw [fd_app,fd_cons,fd_nil]
theorem fd_lt {x:Nat} (hx:x<4294967296) {l:List Nat} (hl:∀c ∈ l,c<256):fd x l<4294967296:=by
 induction l generalizing x with
 | nil=>rw [fd_nil];exact hx
 | cons c l ih=>rw [fd_cons];exact ih (fb_lt hx (hl c (by simp))) fun d hd=>hl d (by simp [hd])
theorem sm_lt (l:List Nat):sm l<4294967296:=by unfold sm;omega
end CrcM
namespace RecM
open Go.RowKit Kit Byt
def nl (xs:List Nat):List Int:=xs.map fun n:Nat=>(n:Int)
theorem nl_u8s (xs:List Nat):u8n xs=NumA.u8s (nl xs):=by simp [u8n,nl,NumA.u8s]
theorem nl_app (xs ys:List Nat):nl (xs++ys)=nl xs++nl ys:=by simp [nl]
theorem nl_len (xs:List Nat):(nl xs).length=xs.length:=by simp [nl]
def byt (xs:List Nat):Prop:=∀c ∈ xs,c<256
theorem byt_app {xs ys:List Nat} (h:byt xs) (g:byt ys):byt (xs++ys):=by
 intro c hc
 rcases List.mem_append.1 hc with h1|h1
 ·exact h c h1
 ·exact g c h1
theorem byt_take {xs:List Nat} (h:byt xs) (k:Nat):byt (xs.take k):=fun c hc=>h c (List.mem_of_mem_take hc)
theorem byt_drop {xs:List Nat} (h:byt xs) (k:Nat):byt (xs.drop k):=fun c hc=>h c (List.mem_of_mem_drop hc)
theorem nl_255 {xs:List Nat} (h:byt xs):∀u ∈ nl xs,0≤u∧u≤255:=by
 intro u hu
 simp only [nl,List.mem_map] at hu
 obtain⟨c,hc,rfl⟩:=hu
 have:=h c hc
 omega
def pbn (n x:Int):List Nat:=(List.range (NumA.wd x)).map fun i=>NumB.cl (NumA.wd x) n/2 ^ (8*(NumA.wd x-1-i))%256
theorem pbn_nl (n x:Int):nl (pbn n x)=NumB.putb n x:=by simp [nl,pbn,NumB.putb,NumB.be,List.map_map,Function.comp_def]
theorem pbn_len (n x:Int):(pbn n x).length=NumA.wd x:=by simp [pbn]
theorem pbn_lt (n x:Int):byt (pbn n x):=by
 intro c hc
 simp only [pbn,List.mem_map,List.mem_range] at hc
 obtain⟨i,_,rfl⟩:=hc
 omega
theorem pbn1 (x:Nat) (h:x<256):pbn (x:Int) 1=[x]:=by
 have h1:NumA.wd 1=1:=rfl
 unfold pbn NumB.cl
 rw [h1]
 have h2:(2:Nat) ^ (8*1)-1=255:=rfl
 rw [h2]
 simp only [Int.toNat_natCast,List.range_succ,List.range_zero,List.nil_append,List.map_cons,List.map_nil]
 rw [Nat.min_eq_left (by omega)]
 simp
 omega
theorem pbn2 (x:Nat) (h:x<65536):pbn (x:Int) 2=[x/256,x%256]:=by
 have h1:NumA.wd 2=2:=rfl
 unfold pbn NumB.cl
 rw [h1]
 have h2:(2:Nat) ^ (8*2)-1=65535:=rfl
 rw [h2]
 simp only [Int.toNat_natCast,List.range_succ,List.range_zero,List.nil_append,List.map_cons,List.map_nil,List.singleton_append]
 rw [Nat.min_eq_left (by omega)]
 simp
 omega
theorem pbn4 (x:Nat) (h:x<4294967296):pbn (x:Int) 4=[x/16777216,x/65536%256,x/256%256,x%256]:=by
 have h1:NumA.wd 4=4:=rfl
 unfold pbn NumB.cl
 rw [h1]
 have h2:(2:Nat) ^ (8*4)-1=4294967295:=rfl
 rw [h2]
 simp only [Int.toNat_natCast,List.range_succ,List.range_zero,List.nil_append,List.map_cons,List.map_nil,List.cons_append]
 rw [Nat.min_eq_left (by omega)]
 simp
 omega
def s4 (xs:List Nat):List Nat:=pbn (CrcM.sm xs:Nat) 4
theorem s4_len (xs:List Nat):(s4 xs).length=4:=by unfold s4;rw [pbn_len];rfl
def shut (xs:List Nat):List Nat:=xs++(s4 xs++List.replicate (60-xs.length) 0)
theorem shut_len {xs:List Nat} (h:xs.length≤60):(shut xs).length=64:=by
 unfold shut
 rw [List.length_append,List.length_append,s4_len,List.length_replicate]
 omega
theorem shut_lt {xs:List Nat} (h:byt xs):byt (shut xs):=byt_app h (byt_app (pbn_lt _ _) (fun c hc=>by have:=List.eq_of_mem_replicate hc;omega))
theorem shut_take (xs:List Nat):(shut xs).take xs.length=xs:=by unfold shut;rw [List.take_append_of_le_length (Nat.le_refl _),List.take_length]
theorem shut_drop (xs:List Nat):(shut xs).drop (xs.length+4)=List.replicate (60-xs.length) 0:=by
 unfold shut
 rw [←List.append_assoc,List.drop_append_of_le_length (by rw [List.length_append,s4_len];omega),List.drop_of_length_le (by rw [List.length_append,s4_len];omega),List.nil_append]
def wrong (m n:Nat) (xs:List Nat):Int:=if xs.length≠64 then 14 else if xs.take 2≠[76,m]∨xs.drop (n+4)≠List.replicate (60-n) 0 then 2 else if shut (xs.take n)≠xs then 10 else 0
def nm (xs:List Nat) (i k:Nat):Int:=(nl ((xs.drop i).take k)).foldl (fun a b=>256*a+b) 0
structure Rc where
 (p q a c l b:Int)
def bitOn (b i:Int):Prop:=(if i=0 then b%2 else b/2%2)=1
instance (b i:Int):Decidable (bitOn b i):=by unfold bitOn;infer_instance
def Rc.right (r:Rc):Prop:=((0≤r.p∧r.p≤3)∧(1≤r.q∧r.q≤4294967295)∧(0≤r.a∧r.a≤1)∧(0≤r.c∧r.c≤1))∧(0≤r.l∧r.l≤7)∧(0≤r.b∧r.b≤3)∧(r.a=r.c→r.l=0)∧¬bitOn r.b r.a∧¬bitOn r.b r.c
instance (r:Rc):Decidable r.right:=by unfold Rc.right;infer_instance
def Rc.none:Rc:=⟨0,0,0,0,0,0⟩
def Rc.bytes (r:Rc):List Nat:=[76,67]++pbn r.p 1++pbn r.q 4++pbn r.a 1++pbn r.c 1++pbn r.l 1++pbn r.b 1
def rcOf (xs:List Nat):Rc:=⟨nm xs 2 1,nm xs 3 4,nm xs 7 1,nm xs 8 1,nm xs 9 1,nm xs 10 1⟩
def getR (xs:List Nat):Rc×Int:=if wrong 67 11 xs≠0 then (Rc.none,wrong 67 11 xs) else if (rcOf xs).right then (rcOf xs,0) else (Rc.none,3)
structure Sg where
 (s z h:Int)
def blocks (z:Int):Nat:=((z+15)/16).toNat
def Sg.right (g:Sg):Prop:=(1≤g.s∧g.s≤65535)∧(1≤g.z∧g.z≤160)∧(0≤g.h∧g.h<2 ^ blocks g.z)
instance (g:Sg):Decidable g.right:=by unfold Sg.right;infer_instance
def Sg.none:Sg:=⟨0,0,0⟩
def Sg.bytes (g:Sg):List Nat:=[76,83]++pbn g.s 2++pbn g.z 2++pbn g.h 2
def sgOf (xs:List Nat):Sg:=⟨nm xs 2 2,nm xs 4 2,nm xs 6 2⟩
def getS (xs:List Nat):Sg×Int:=if wrong 83 8 xs≠0 then (Sg.none,wrong 83 8 xs) else if (sgOf xs).right then (sgOf xs,0) else (Sg.none,3)
theorem Rc.bytes_len (r:Rc):r.bytes.length=11:=by simp [Rc.bytes,pbn_len];rfl
theorem Sg.bytes_len (g:Sg):g.bytes.length=8:=by simp [Sg.bytes,pbn_len];rfl
theorem Rc.bytes_lt (r:Rc):byt r.bytes:=byt_app (byt_app (byt_app (byt_app (byt_app (byt_app (by unfold byt;simp) (pbn_lt _ _)) (pbn_lt _ _)) (pbn_lt _ _)) (pbn_lt _ _)) (pbn_lt _ _)) (pbn_lt _ _)
theorem Sg.bytes_lt (g:Sg):byt g.bytes:=byt_app (byt_app (byt_app (by unfold byt;simp) (pbn_lt _ _)) (pbn_lt _ _)) (pbn_lt _ _)
theorem Rc.bytes_eq {p q a c l b:Nat} (h:Rc.right ⟨p,q,a,c,l,b⟩):Rc.bytes ⟨p,q,a,c,l,b⟩=[76,67,p,q/16777216,q/65536%256,q/256%256,q%256,a,c,l,b]:=by
 obtain⟨⟨h1,h2,h3,h4⟩,h5,h6,_⟩:=h
 dsimp only at h1 h2 h3 h4 h5 h6
 unfold Rc.bytes
 rw [pbn1 p (by omega),pbn4 q (by omega),pbn1 a (by omega),pbn1 c (by omega),pbn1 l (by omega),pbn1 b (by omega)]
 rfl
theorem pow_blocks {z:Int} (h:z≤160):(2:Int) ^ blocks z≤1024:=by
 have h1:blocks z≤10:=by unfold blocks;omega
 have h2:(2:Nat) ^ blocks z≤2 ^ 10:=Nat.pow_le_pow_right (by omega) h1
 have h3:((2 ^ blocks z:Nat):Int)=(2:Int) ^ blocks z:=by simp
 omega
theorem Sg.bytes_eq {s z h:Nat} (hr:Sg.right ⟨s,z,h⟩):Sg.bytes ⟨s,z,h⟩=[76,83,s/256,s%256,z/256,z%256,h/256,h%256]:=by
 obtain⟨h1,h2,h3⟩:=hr
 dsimp only at h1 h2 h3
 have:=pow_blocks h2.2
 unfold Sg.bytes
 rw [pbn2 s (by omega),pbn2 z (by omega),pbn2 h (by omega)]
 rfl
theorem Rc.nats {r:Rc} (h:r.right):∃p q a c l b:Nat,r=⟨p,q,a,c,l,b⟩:=by
 obtain⟨p,q,a,c,l,b⟩:=r
 obtain⟨⟨h1,h2,h3,h4⟩,h5,h6,_⟩:=h
 dsimp only at h1 h2 h3 h4 h5 h6
 exact⟨p.toNat,q.toNat,a.toNat,c.toNat,l.toNat,b.toNat,by simp;omega⟩
theorem Sg.nats {g:Sg} (h:g.right):∃s z k:Nat,g=⟨s,z,k⟩:=by
 obtain⟨s,z,k⟩:=g
 obtain⟨h1,h2,h3,_⟩:=h
 dsimp only at h1 h2 h3
 exact⟨s.toNat,z.toNat,k.toNat,by simp;omega⟩
theorem wrong_shut {m n:Nat} {xs:List Nat} (hl:xs.length=n) (h60:n≤60) (hm:xs.take 2=[76,m]) (h2:2≤n):wrong m n (shut xs)=0:=by
 have e1:(shut xs).take 2=[76,m]:=by unfold shut;rw [List.take_append_of_le_length (by omega),hm]
 have e2:(shut xs).drop (n+4)=List.replicate (60-n) 0:=by rw [←hl];exact shut_drop xs
 have e3:shut ((shut xs).take n)=shut xs:=by rw [←hl,shut_take]
 unfold wrong
 rw [if_neg (by rw [shut_len (by omega)];simp),if_neg (by rw [e1,e2];simp),if_neg (by rw [e3];simp)]
theorem rcOf_shut {r:Rc} (h:r.right):rcOf (shut r.bytes)=r:=by
 obtain⟨p,q,a,c,l,b,rfl⟩:=Rc.nats h
 have he:=Rc.bytes_eq h
 unfold shut rcOf nm
 rw [he]
 simp [nl]
 omega
theorem sgOf_shut {g:Sg} (h:g.right):sgOf (shut g.bytes)=g:=by
 obtain⟨s,z,k,rfl⟩:=Sg.nats h
 have he:=Sg.bytes_eq h
 unfold shut sgOf nm
 rw [he]
 simp [nl]
 omega
theorem getR_back {r:Rc} (h:r.right):getR (shut r.bytes)=(r,0):=by
 have h0:wrong 67 11 (shut r.bytes)=0:=wrong_shut r.bytes_len (by omega) (by simp [Rc.bytes]) (by omega)
 unfold getR
 rw [if_neg (by simp [h0]),rcOf_shut h,if_pos h]
theorem getS_back {g:Sg} (h:g.right):getS (shut g.bytes)=(g,0):=by
 have h0:wrong 83 8 (shut g.bytes)=0:=wrong_shut g.bytes_len (by omega) (by simp [Sg.bytes]) (by omega)
 unfold getS
 rw [if_neg (by simp [h0]),sgOf_shut h,if_pos h]
theorem wrong_same (m y n k:Nat) (hm:m≠76):wrong m k (List.replicate n y)=if n=64 then 2 else 14:=by
 unfold wrong
 rw [List.length_replicate]
 by_cases h:n=64
 ·rw [if_neg (by simp [h]),if_pos h,if_pos (Or.inl (by
   subst h
   intro e
   simp [List.replicate_succ] at e
   omega))]
 ·rw [if_pos h,if_neg h]
end RecM
namespace BitM
open Go.RowKit Kit
def pw (i:Int):Int:=2 ^ i.toNat
def hb (s i:Int):Bool:=decide (0≤i∧i≤15∧s/pw i%2=1)
theorem pw_succ (k:Nat):pw ((k:Int)+1)=pw k+pw k:=by
 unfold pw
 rw [show ((k:Int)+1).toNat=k+1 from by omega,show ((k:Int)).toNat=k from by omega,Int.pow_succ]
 omega
theorem pw_bd (k:Nat) (h:k≤16):1≤pw k∧pw k≤65536:=by
 unfold pw
 have h1:(1:Int)≤2 ^ k:=by exact_mod_cast Nat.one_le_two_pow
 have h2:(2:Int) ^ k≤2 ^ 16:=by exact_mod_cast Nat.pow_le_pow_right (by decide) h
 rw [show ((k:Int)).toNat=k from by omega]
 exact⟨h1,by simpa using h2⟩
theorem pw_half (k:Nat) (h:k≤15):pw k≤32768:=by
 have:=pw_bd (k+1) (by omega)
 have e:=pw_succ k
 rw [Int.natCast_add] at this
 have:pw ((k:Int)+1)≤65536:=this.2
 omega
theorem low_bit (s:Int) (k:Nat) (h:k≤15):(s%65536)/pw k%2=s/pw k%2:=by
 have e:(65536:Int)=pw k*(2*pw ((15-k:Nat):Int)):=by
  unfold pw
  rw [show ((k:Int)).toNat=k from by omega,show (((15-k:Nat)):Int).toNat=15-k from by omega]
  have h2:(2:Int) ^ (k+(15-k+1))=2 ^ k*2 ^ (15-k+1):=Int.pow_add ..
  rw [Int.pow_succ,show k+(15-k+1)=16 from by omega] at h2
  rw [Int.mul_comm 2 (2 ^ (15-k)),←h2]
  rfl
 have h1:=(pw_bd k (by omega)).1
 have e2:s%65536=s+pw k*(2*(pw ((15-k:Nat):Int)*(-(s/65536)))):=by
  have e3:pw k*(2*(pw ((15-k:Nat):Int)*(-(s/65536))))=65536*(-(s/65536)):=by rw [e,←Int.mul_assoc,←Int.mul_assoc,←Int.mul_assoc]
  rw [e3]
  omega
 rw [e2,Int.add_mul_ediv_left _ _ (by omega)]
 omega
theorem tmod16 (s:Int):(s.tmod 65536<0∧s.tmod 65536+65536=s%65536)∨(0≤s.tmod 65536∧s.tmod 65536=s%65536):=by
 have h:=Int.tmod_add_mul_tdiv s 65536
 have h1:=Int.tmod_lt_of_pos s (show (0:Int)<65536 by decide)
 have h2:=Int.lt_tmod_of_pos s (show (0:Int)<65536 by decide)
 omega
theorem ret_i {a b:Int} (h:a=b):Ending.returned (.int .i64 a)=.returned (.int .i64 b):=by rw [h]
theorem rpower_any (i:Nat) (w:World) (hi:i≤16):Calls Tryz.prog 133 #[.int .i64 (i:Nat)] w fun e w'=>e=.returned (.int .i64 (pw i))∧w=w':=by
 go_enter Tryz.func133,Tryz.ntmps133
 go_wp2
 go_loopw [3,4] (fun n k wr=>∃(j:Nat) (q:Int),j≤i∧n=.int .i64 q∧k=.int .i64 j∧Hid (q=pw j)∧w=wr) (fun _ k _=>i-(intOf k).toNat)
 case atStart=>exact⟨0,1,by omega,rfl,rfl,Hz rfl,rfl⟩
 case round=>
  obtain⟨j,q,hj,rfl,rfl,hq,rfl⟩:=hrel
  have hb:=pw_bd j (by omega)
  rw [←hq.out] at hb
  by_cases hlt:j<i
  ·have hn:=Hz (pw_succ j)
   rw [←hq.out] at hn
   go_wp2
   go_roundw
   case rel=>exact⟨j+1,q+q,by omega,rfl,by simp,Hz (by rw [Int.natCast_add];exact hn.out.symm),trivial⟩
   case measure=>simp [intOf];omega
  ·obtain rfl:j=i:=by omega
   go_wp2
   go_ret
   exact⟨ret_i hq.out,rfl⟩
theorem wrap_in {n:Int} (h0:0≤n) (h1:n<4294967296):wrap64 n=n:=by unfold wrap64;omega
theorem ret_b {a b:Bool} (h:a=b):Ending.returned (.bool a)=.returned (.bool b):=by rw [h]
theorem rhas_any (s i:Int) (w:World):Calls Tryz.prog 81 #[.int .i64 s,.int .i64 i] w fun e w'=>e=.returned (.bool (hb s i))∧w=w':=by
 by_cases h0:i<0
 ·have H:=Hz (show false=hb s i from by unfold hb;symm;simp;omega)
  go_enter Tryz.func81,Tryz.ntmps81
  go_wp2
  go_ret
  exact⟨ret_b H.out,rfl⟩
 ·by_cases h15:15<i
  ·have H:=Hz (show false=hb s i from by unfold hb;symm;simp;omega)
   go_enter Tryz.func81,Tryz.ntmps81
   go_wp2
   go_ret
   exact⟨ret_b H.out,rfl⟩
  ·obtain⟨k,rfl⟩:∃k:Nat,i=k:=⟨i.toNat,by omega⟩
   have HP:=Hz (fun w'=>rpower_any k w' (by omega))
   have hpb:=pw_bd k (by omega)
   have hlb:=Hz (low_bit s k (by omega))
   have H:Hid (∀L:Int,L=s%65536→((wrap64 ((wrap64 L).tdiv (pw k))).tmod 2==1)=hb s k∧((wrap64 (L.tdiv (pw k))).tmod 2==1)=hb s k):=Hz (fun L hL=>by
    have hL0:0≤L:=by omega
    have hq0:0≤L/pw k:=Int.ediv_nonneg hL0 (by omega)
    have hq1:L/pw k≤L:=Int.ediv_le_self _ hL0
    have hv:((L/pw k).tmod 2==1)=hb s k:=by
     rw [Int.tmod_eq_emod_of_nonneg hq0,hL,hlb.out]
     unfold hb
     have:(0≤(k:Int)∧(k:Int)≤15):=by omega
     simp [this]
     rfl
    rw [wrap_in hL0 (by omega),Int.tdiv_eq_ediv_of_nonneg hL0,wrap_in hq0 (by omega)]
    exact⟨hv,hv⟩)
   obtain⟨P,hP⟩:∃P,P=pw k:=⟨_,rfl⟩
   rw [←hP] at HP hpb
   rw [←hP] at H
   clear hP hlb
   rcases tmod16 s with⟨hn,he⟩|⟨hn,he⟩
   ·have H2:=Hz (H.out _ he).1
    clear H he
    go_enter Tryz.func81,Tryz.ntmps81
    go_wp2_with (go_at_call 133;refine (HP.out _).mono ?_;rintro e w' ⟨rfl,rfl⟩)
    go_ret
    exact⟨ret_b H2.out,rfl⟩
   ·have H2:=Hz (H.out _ he).2
    clear H he
    go_enter Tryz.func81,Tryz.ntmps81
    go_wp2_with (go_at_call 133;refine (HP.out _).mono ?_;rintro e w' ⟨rfl,rfl⟩)
    go_ret
    exact⟨ret_b H2.out,rfl⟩
end BitM
namespace BitB
open Go.RowKit Kit BitM
def wv (s i:Int):Int:=if 0≤i∧i≤15∧hb s i=false then s+pw i else s
theorem pw_add (a b:Nat):pw ((a+b:Nat):Int)=pw a*pw b:=by
 unfold pw
 rw [show (((a+b:Nat)):Int).toNat=a+b from by omega,show ((a:Int)).toNat=a from by omega,show ((b:Int)).toNat=b from by omega]
 exact Int.pow_add ..
theorem pw_pos (k:Nat):1≤pw k:=by
 unfold pw
 rw [show ((k:Int)).toNat=k from by omega]
 exact_mod_cast Nat.one_le_two_pow
theorem hb_nat (s:Int) {k:Nat} (h:k≤15):hb s k=decide (s/pw k%2=1):=by
 unfold hb
 have:(0≤(k:Int)∧(k:Int)≤15):=by omega
 simp [this]
theorem up_low (s:Int) {i k:Nat} (h:k<i):(s+pw i)/pw k%2=s/pw k%2:=by
 have e:pw i=pw k*(2*pw ((i-k-1:Nat):Int)):=by
  have h1:=pw_add k (1+(i-k-1))
  have h2:=pw_add 1 (i-k-1)
  rw [show k+(1+(i-k-1))=i from by omega] at h1
  rw [h1,h2]
  rfl
 have hp:=pw_pos k
 rw [e,Int.add_mul_ediv_left _ _ (by omega)]
 omega
theorem up_same (s:Int) (i:Nat):(s+pw i)/pw i=s/pw i+1:=by
 have hp:=pw_pos i
 have h:=Int.add_mul_ediv_left s 1 (show pw i≠0 by omega)
 rwa [Int.mul_one] at h
theorem up_high (s:Int) {i k:Nat} (h:i<k) (h0:s/pw i%2=0):(s+pw i)/pw k=s/pw k:=by
 have e:pw k=pw i*(2*pw ((k-i-1:Nat):Int)):=by
  have h1:=pw_add i (1+(k-i-1))
  have h2:=pw_add 1 (k-i-1)
  rw [show i+(1+(k-i-1))=k from by omega] at h1
  rw [h1,h2]
  rfl
 have hp:=pw_pos i
 rw [e,←Int.ediv_ediv_of_nonneg (by omega),←Int.ediv_ediv_of_nonneg (by omega),←Int.ediv_ediv_of_nonneg (by omega),←Int.ediv_ediv_of_nonneg (by omega),up_same]
 rw [show (s/pw i+1)/2=s/pw i/2 from by omega]
theorem hb_wv (s i:Int) {k:Nat} (hk:k≤15):hb (wv s i) k=(hb s k || decide ((k:Int)=i)):=by
 unfold wv
 by_cases hi:0≤i∧i≤15∧hb s i=false
 ·rw [if_pos hi]
  obtain⟨j,rfl⟩:∃j:Nat,i=j:=⟨i.toNat,by omega⟩
  have hj:j≤15:=by omega
  have h0:=hi.2.2
  rw [hb_nat s hj] at h0
  have h0':s/pw j%2=0:=by have:=of_decide_eq_false h0;omega
  rw [hb_nat _ hk,hb_nat _ hk]
  rcases Nat.lt_trichotomy k j with h|h|h
  ·rw [up_low s h]
   simp;omega
  ·subst h
   rw [up_same]
   simp;omega
  ·rw [up_high s h h0']
   simp;omega
 ·rw [if_neg hi]
  by_cases he:(k:Int)=i
  ·subst he
   have:hb s k=true:=by
    cases h:hb s k
    ·exact absurd ⟨by omega,by omega,h⟩ hi
    ·rfl
   simp [this]
  ·simp [he]
end BitB
namespace BitA
open Go.RowKit Kit Mem BitM
def lim (n:Int):Nat:=(if n<0 then 0 else if 16<n then 16 else n).toNat
theorem lim_le (n:Int):lim n≤16:=by unfold lim;repeat (first|omega|split)
def miss (s:Int):Nat→List Int
 | 0=>[]
 | k+1=>miss s k++(if hb s k then [] else [(k:Int)])
end BitA
namespace BitC
open Go.RowKit Kit Mem BitM BitA BitB
theorem wv_no {s:Int} {k:Nat} (h:k≤15) (h0:hb s k=false):wv s k=s+pw k:=by
 unfold wv
 rw [if_pos ⟨by omega,by omega,h0⟩]
theorem more_lt {h:Int} {m k:Nat} (_:0≤h) (h1:h<2 ^ m) (hk:k<m) (hm:m≤16) (hn:hb h k=false):h+pw k<2 ^ m:=by
 rw [hb_nat _ (by omega)] at hn
 have hn':h/pw k%2=0:=by have:=of_decide_eq_false hn;omega
 have e:(2:Int) ^ m=pw k*(2*pw ((m-k-1:Nat):Int)):=by
  have h2:=pw_add k (1+(m-k-1))
  have h3:=pw_add 1 (m-k-1)
  rw [show k+(1+(m-k-1))=m from by omega] at h2
  have h4:(2:Int) ^ m=pw m:=by unfold pw;rw [show ((m:Int)).toNat=m from by omega]
  rw [h4,h2,h3]
  rfl
 have hp:=pw_pos k
 have hq:=pw_pos (m-k-1)
 obtain⟨P,hP⟩:∃P,P=pw k:=⟨_,rfl⟩
 obtain⟨Q,hQ⟩:∃Q,Q=pw ((m-k-1:Nat):Int):=⟨_,rfl⟩
 rw [e] at h1 ⊢
 rw [←hP] at hp hn' h1 ⊢
 rw [←hQ] at hq h1 ⊢
 have h5:h/P<2*Q:=Int.ediv_lt_of_lt_mul (by omega) (by rw [Int.mul_comm];exact h1)
 have h6:h/P+2≤2*Q:=by omega
 have h7:=Int.lt_ediv_add_one_mul_self h (show 0<P by omega)
 have h8:=Int.mul_le_mul_of_nonneg_right h6 (show 0≤P by omega)
 rw [Int.mul_comm (2*Q) P,show h/P+2=(h/P+1)+1 from by omega,Int.add_mul] at h8
 omega
theorem bit_nat (n:Nat) {k:Nat} (h:k≤15):hb (n:Int) k=n.testBit k:=by
 rw [hb_nat _ h,Nat.testBit_eq_decide_div_mod_eq]
 have e:pw k=((2 ^ k:Nat):Int):=by
  unfold pw
  rw [show ((k:Int)).toNat=k from by omega]
  simp
 rw [e,Bool.eq_iff_iff]
 simp only [decide_eq_true_eq]
 omega
theorem lim_nat {k:Nat} (h:k≤16):lim (k:Int)=k:=by unfold lim;repeat (first|omega|split)
end BitC
namespace StgM
open Go.RowKit Kit Byt Mem DskA DskB DskD DskE DskF RecM BitM BitA BitB BitC
structure Slt where
 (p k:Nat)
 has:Bool
 g:Sg
def Slt.at_ (t:Slt):Nat:=10*t.p+2+4*t.k
def Slt.dat (t:Slt) (i:Nat):Nat:=t.at_+1+i
def fresh (n z:Int):Sg:=⟨n,z,0⟩
def more (g:Sg) (no:Int):Sg:={ g with h:=wv g.h no }
def into (c:List Nat) (o:Nat) (d:List Nat):List Nat:=c.take o++(d++c.drop (o+16))
def pB (s:St) (t:Slt) (n z:Int):St×Slt×Int:=
 if (fresh n z).right then (if (put1 s t.at_ (shut (fresh n z).bytes)).2=0 then ((put1 s t.at_ (shut (fresh n z).bytes)).1,{ t with has:=true,g:=fresh n z },0) else ((put1 s t.at_ (shut (fresh n z).bytes)).1,t,8)) else (s,t,3)
def pC (s:St) (t:Slt):St×Slt×Int:=
 if (put1 s t.at_ (zs 64)).2=0 then ((put1 s t.at_ (zs 64)).1,{ t with has:=false,g:=Sg.none },0) else ((put1 s t.at_ (zs 64)).1,t,8)
def sect (s:St) (t:Slt) (no:Nat) (d:List Nat):List Nat:=into (now s (t.dat (no/4))) (16*(no%4)) d
def pP (s:St) (t:Slt) (n no:Int) (d:List Nat):St×Slt×Int:=
 if t.has=false then (s,t,16) else if n≠t.g.s then (s,t,17) else if no<0∨(blocks t.g.z:Int)≤no then (s,t,3) else if d.length≠16 then (s,t,14)
 else if hb t.g.h no=true then (s,t,0)
 else if (put1 s (t.dat (no.toNat/4)) (sect s t no.toNat d)).2≠0 then ((put1 s (t.dat (no.toNat/4)) (sect s t no.toNat d)).1,t,8)
 else if (put1 (put1 s (t.dat (no.toNat/4)) (sect s t no.toNat d)).1 t.at_ (shut (more t.g no).bytes)).2≠0 then ((put1 (put1 s (t.dat (no.toNat/4)) (sect s t no.toNat d)).1 t.at_ (shut (more t.g no).bytes)).1,t,8)
 else ((put1 (put1 s (t.dat (no.toNat/4)) (sect s t no.toNat d)).1 t.at_ (shut (more t.g no).bytes)).1,{ t with g:=more t.g no },0)
def pO (s:St) (p k:Nat):Slt:=⟨p,k,decide ((getS (now s (10*p+2+4*k))).2=0),(getS (now s (10*p+2+4*k))).1⟩
def pY (s:St) (t:Slt):List Nat×Int:=
 if t.has=false then ([],16) else if miss t.g.h (blocks t.g.z)≠[] then ([],11) else if s.down=true then ([],8)
 else ((now s (t.dat 0)++(now s (t.dat 1)++now s (t.dat 2))).take t.g.z.toNat,0)
structure Rf where
 has:Bool
 g:Sg
 bl:List (List Nat)
def Rf.none:Rf:=⟨false,Sg.none,[]⟩
def rB (x:Rf) (n z:Int):Rf×Int:=if (fresh n z).right then (⟨true,fresh n z,List.replicate (blocks z) []⟩,0) else (x,3)
def rP (x:Rf) (n no:Int) (d:List Nat):Rf×Int:=
 if x.has=false then (x,16) else if n≠x.g.s then (x,17) else if no<0∨(x.bl.length:Int)≤no then (x,3) else if d.length≠16 then (x,14)
 else if x.bl.getD no.toNat []≠[] then (x,0) else (⟨true,{ x.g with h:=x.g.h+pw no },x.bl.set no.toNat d⟩,0)
def rY (x:Rf):List Nat×Int:=
 if x.has=false then ([],16) else if [] ∈ x.bl then ([],11) else (x.bl.flatten.take x.g.z.toNat,0)
structure Rf.wf (x:Rf):Prop where
 no:x.has=false→x=Rf.none
 right:x.has=true→x.g.right
 len:x.has=true→x.bl.length=blocks x.g.z
 each:∀i,i<x.bl.length→(x.bl.getD i []=[]∧hb x.g.h i=false)∨((x.bl.getD i []).length=16∧hb x.g.h i=true)
theorem none_wf:Rf.none.wf:=⟨fun _=>rfl,fun h=>(by cases h),fun h=>(by cases h),fun i hi=>(by simp [Rf.none] at hi)⟩
theorem hb_zero (i:Int):hb 0 i=false:=by unfold hb;simp
theorem fresh_wf {n z:Int} (h:(fresh n z).right):(Rf.mk true (fresh n z) (List.replicate (blocks z) [])).wf:=
 ⟨fun e=>(by cases e),fun _=>h,fun _=>(by simp [fresh]),fun i hi=>.inl ⟨by
  have hi':i<blocks z:=by simpa using hi
  rw [List.getD_eq_getElem?_getD,List.getElem?_replicate,if_pos hi'];rfl,hb_zero _⟩⟩
theorem blocks_10 {z:Int} (h:z≤160):blocks z≤10:=by unfold blocks;omega
theorem rP_yes {x:Rf} {no:Nat} {d:List Nat} (h:x.wf) (hh:x.has=true) (hn:no<x.bl.length) (hd:d.length=16) (h0:x.bl.getD no []=[]) :
 hb x.g.h no=false∧(Rf.mk true { x.g with h:=x.g.h+pw no } (x.bl.set no d)).wf:=by
 have hr:=h.right hh
 have hl:=h.len hh
 have h10:=blocks_10 hr.2.1.2
 have hb0:hb x.g.h no=false:=by
  rcases h.each no hn with h1|h1
  ·exact h1.2
  ·rw [h0] at h1;exact absurd h1.1 (by simp)
 refine⟨hb0,⟨fun e=>(by cases e),fun _=>⟨hr.1,hr.2.1,?_⟩,fun _=>?_,fun i hi=>?_⟩⟩
 ·have hp:=pw_pos no
  exact⟨by have:=hr.2.2.1;show 0≤x.g.h+pw no;omega,more_lt (m:=blocks x.g.z) hr.2.2.1 hr.2.2.2 (by omega) (by omega) hb0⟩
 ·show (x.bl.set no d).length=blocks x.g.z
  rw [List.length_set];exact hl
 ·have hi':i<x.bl.length:=by simpa using hi
  show ((x.bl.set no d).getD i []=[]∧hb (x.g.h+pw no) i=false)∨(((x.bl.set no d).getD i []).length=16∧hb (x.g.h+pw no) i=true)
  rw [←wv_no (by omega) hb0,hb_wv _ _ (by omega),List.getD_eq_getElem?_getD,List.getElem?_set]
  by_cases e:no=i
  ·subst e
   rw [if_pos rfl,if_pos hn]
   exact .inr ⟨hd,by simp⟩
  ·rw [if_neg e,←List.getD_eq_getElem?_getD]
   have:decide ((i:Int)=(no:Int))=false:=by simp;omega
   rw [this,Bool.or_false]
   exact h.each i hi'
end StgM
namespace RecA
open Go.RowKit Kit Byt Mem RecM
open Classical in
theorem bool_of (p:Prop):∃b:Bool,b=true↔p:=⟨decide p,by simp⟩
@[reducible] def rval (r:Rc):Value:=.agg #[.int .i64 r.p,.int .i64 r.q,.int .i64 r.a,.int .i64 r.c,.int .i64 r.l,.int .i64 r.b]
@[reducible] def sval (g:Sg):Value:=.agg #[.int .i64 g.s,.int .i64 g.z,.int .i64 g.h]
def rcells (r:Rc):List Value:=[.int .i64 r.p,.int .i64 r.q,.int .i64 r.a,.int .i64 r.c,.int .i64 r.l,.int .i64 r.b]
def scells (g:Sg):List Value:=[.int .i64 g.s,.int .i64 g.z,.int .i64 g.h]
def n64 (x:Int):Prop:=-9223372036854775808≤x∧x≤9223372036854775807
structure rok (r:Rc):Prop where
 p:n64 r.p
 q:n64 r.q
 a:n64 r.a
 c:n64 r.c
 l:n64 r.l
 b:n64 r.b
structure sok (g:Sg):Prop where
 s:n64 g.s
 z:n64 g.z
 h:n64 g.h
def Yes (w:World) (b:Bool) (e:Ending) (w':World):Prop:=e=.returned (.bool b)∧Below w.heap.size w w'
structure Bx (w:World) (g:Nat) (t:TypeId) (cs:List Value) (wr:World):Prop where
 blk:Blk wr g t cs
 new_:w.heap.size≤g
 bel:Below w.heap.size w wr
theorem Bx.new (w:World) (t:TypeId) (cs:List Value):Bx w w.heap.size t cs (w.alloc (.cells cs.toArray t)):=⟨Blk.new w _ _,Nat.le_refl _,(Below.refl _ _).alloc (Nat.le_refl _) _⟩
theorem Bx.step {w wr w':World} {g:Nat} {t:TypeId} {cs:List Value} (h:Bx w g t cs wr) (hb:Below wr.heap.size wr w'):Bx w g t cs w':=⟨h.blk.below hb,h.new_,h.bel.trans (hb.mono h.bel.size)⟩
theorem int_eq {a b:Int} (h:a=b):Value.int .i64 a=.int .i64 b:=by rw [h]
end RecA
namespace RecA
open Go.RowKit Kit Byt Mem RecM
theorem rblocks_any (z:Int) (w:World) (h0 : -9223372036854775808≤z) (h1:z≤1000):Calls Tryz.prog 140 #[.int .i64 z] w fun e w'=>e=.returned (.int .i64 (blocks z:Nat))∧w=w':=by
 go_enter Tryz.func140,Tryz.ntmps140
 go_wp2
 go_loop [0,3] (fun s k=>∃j:Nat,k=.int .i64 j∧s=.int .i64 (z-16*j)∧Hid ((j:Int)=0∨0<z-16*((j:Int)-1))) (fun _ k=>100-(intOf k).toNat)
 case atStart=>exact⟨0,rfl,by simp,Hz (Or.inl rfl)⟩
 case round=>
  obtain⟨j,rfl,rfl,hj⟩:=hrel
  have hj63:j≤63:=by have:=hj.out;omega
  by_cases hz:0<z-16*(j:Int)
  ·go_wp2
   go_round
   case rel=>exact⟨j+1,by go_num,int_eq (by omega),Hz (Or.inr (by omega))⟩
   case measure=>simp [intOf];omega
  ·go_wp2
   go_ret
   refine⟨ret_int ?_,rfl⟩
   have:=hj.out
   unfold blocks
   omega
theorem rrights_any (g:Sg) (w:World) (hk:sok g) (b:Bool) (hb:b=true↔g.right):Calls Tryz.prog 139 #[sval g] w (Yes w b):=by
 obtain⟨s,z,h⟩:=g
 have HB:=Hz (show b=true↔(1≤s∧s≤65535)∧(1≤z∧z≤160)∧(0≤h∧h<2 ^ blocks z) from hb)
 have hh:h≤9223372036854775807:=hk.h.2
 clear hb hk
 have HX:=Hz (Bx.new w 80 (scells ⟨s,z,h⟩))
 have HF:=Hz (show ∀q:Prop,(b=true→q)→¬q→b=false from fun q h hp=>by rw [Bool.eq_false_iff];exact fun hb=>hp (h hb))
 show Calls _ _ #[.agg #[.int .i64 s,.int .i64 z,.int .i64 h]] w _
 by_cases g0:s<1
 ·have hbf:=Hz (HF.out _ (fun h=>(HB.out.1 h).1) (by omega))
  go_enter Tryz.func139,Tryz.ntmps139
  go_wp2
  go_ret
  exact⟨by rw [hbf.out];rfl,HX.out.bel⟩
 ·skip
  by_cases g1:65535<s
  ·have hbf:=Hz (HF.out _ (fun h=>(HB.out.1 h).1) (by omega))
   go_enter Tryz.func139,Tryz.ntmps139
   go_wp2
   go_ret
   exact⟨by rw [hbf.out];rfl,HX.out.bel⟩
  ·skip
   by_cases g2:z<1
   ·have hbf:=Hz (HF.out _ (fun h=>(HB.out.1 h).2.1) (by omega))
    go_enter Tryz.func139,Tryz.ntmps139
    go_wp2
    go_ret
    exact⟨by rw [hbf.out];rfl,HX.out.bel⟩
   ·skip
    by_cases g3:160<z
    ·have hbf:=Hz (HF.out _ (fun h=>(HB.out.1 h).2.1) (by omega))
     go_enter Tryz.func139,Tryz.ntmps139
     go_wp2
     go_ret
     exact⟨by rw [hbf.out];rfl,HX.out.bel⟩
    ·skip
     by_cases g4:h<0
     ·have hbf:=Hz (HF.out _ (fun h=>(HB.out.1 h).2.2.1) (by omega))
      go_enter Tryz.func139,Tryz.ntmps139
      go_wp2
      go_ret
      exact⟨by rw [hbf.out];rfl,HX.out.bel⟩
     ·skip
      have hb10:blocks z≤10:=by unfold blocks;omega
      obtain⟨K,hK⟩:∃K,K=blocks z:=⟨_,rfl⟩
      have HK:=Hz (fun w'=>hK▸rblocks_any z w' (by omega) (by omega))
      rw [←hK] at HB hb10
      clear hK
      go_enter Tryz.func139,Tryz.ntmps139
      go_wp2
      go_loop [3,4] (fun m k=>∃j:Nat,j≤K∧k=.int .i64 j∧m=.int .i64 ((2 ^ j:Nat):Int)) (fun _ k=>K-(intOf k).toNat)
      case atStart=>exact⟨0,by omega,rfl,rfl⟩
      case round=>
       obtain⟨j,hj,rfl,rfl⟩:=hrel
       have hp:2 ^ j≤1024:=Nat.le_trans (Nat.pow_le_pow_right (by omega) (Nat.le_trans hj hb10)) (by decide:2 ^ 10≤1024)
       obtain⟨P,hP⟩:∃P,P=2 ^ j:=⟨_,rfl⟩
       have HP:=Hz hP
       rw [←hP] at hp ⊢
       clear hP
       by_cases hjk:j<K
       ·go_wp2_with (go_at_call 140;refine (HK.out _).mono ?_;rintro e w' ⟨rfl,rfl⟩)
        go_round
        case rel=>exact⟨j+1,by omega,by go_num,int_eq (by rw [Nat.pow_succ,←HP.out];omega)⟩
        case measure=>simp [intOf];omega
       ·obtain rfl:j=K:=by omega
        go_wp2_with (go_at_call 140;refine (HK.out _).mono ?_;rintro e w' ⟨rfl,rfl⟩)
        go_ret
        refine⟨ret_bool ?_,HX.out.bel⟩
        have hc:((2 ^ j:Nat):Int)=(2:Int) ^ j:=by simp
        rw [Bool.eq_iff_iff,HB.out,←hc,←HP.out]
        simp
        omega
end RecA
namespace StgA
open Go.RowKit Kit Byt Mem RecM BitM BitB BitC StgM
open RecA (n64 sok rblocks_any rrights_any)
def hd (x:Rf) (A:Option Addr) (n c:Nat):List Value:=[.bool x.has,.int .i64 x.g.s,.int .i64 x.g.z,.int .i64 x.g.h,.slice A n c]
structure RS (w:World) (H N:Nat→Prop) (a:Nat) (x:Rf) (E:List Sl) (A:Option Addr) (n c:Nat):Prop where
 head:Blk w a 97 (hd x A n c)
 own:w.ownsRow 0 52 1 (.slice A n c) n (E.map Sl.val)
 bl:x.bl=E.map (·.xs)
 ent:∀e ∈ E,Rd w e.A e.n e.c (u8n e.xs)∧∀b o,e.A=some ⟨b,o,none⟩→N b
 ha:H a
 ho:∀k,(Value.slice A n c).ownBlock=some k→H k∧k≠a
 hlt:∀k,H k→k<w.heap.size
 nlt:∀k,N k→k<w.heap.size
 dis:∀k,H k→¬N k
def RSl (w:World) (H N:Nat→Prop) (a:Nat) (x:Rf):Prop:=∃E A n c,RS w H N a x E A n c
section
variable {w w':World} {H N G:Nat→Prop} {a n c:Nat} {x:Rf} {E:List Sl} {A:Option Addr}
theorem RS.len (h:RS w H N a x E A n c):x.bl.length=n:=by
 have h1:=h.own.1
 rw [List.length_map,Nat.mul_one] at h1
 rw [h.bl,List.length_map]
 exact h1
theorem RS.keep (h:RS w H N a x E A n c) (k:Keep G w w') (h1:∀i,H i→¬G i) (h2:∀i,N i→¬G i):RS w' H N a x E A n c:=
 ⟨k.blk h.head (h1 _ h.ha),k.own h.own fun i hi=>h1 i (h.ho i hi).1,h.bl,fun e he=>⟨k.rd (h.ent e he).1 fun _ b o hA=>h2 b ((h.ent e he).2 b o hA),(h.ent e he).2⟩,h.ha,h.ho,
  fun i hi=>Nat.lt_of_lt_of_le (h.hlt i hi) k.size,fun i hi=>Nat.lt_of_lt_of_le (h.nlt i hi) k.size,h.dis⟩
theorem RSl.keep (h:RSl w H N a x) (k:Keep G w w') (h1:∀i,H i→¬G i) (h2:∀i,N i→¬G i):RSl w' H N a x:=by
 obtain⟨E,A,n,c,h⟩:=h
 exact⟨E,A,n,c,h.keep k h1 h2⟩
theorem RS.below (h:RS w H N a x E A n c) (hb:Below w.heap.size w w'):RS w' H N a x E A n c:=h.keep (Keep.of_below (F:=fun _=>False) hb) (fun _ _ h=>h) (fun _ _ h=>h)
theorem RSl.below (h:RSl w H N a x) (hb:Below w.heap.size w w'):RSl w' H N a x:=h.keep (Keep.of_below (F:=fun _=>False) hb) (fun _ _ h=>h) (fun _ _ h=>h)
theorem RS.cells (h:RS w H N a x E A n c):w.cell? ⟨a,0,none⟩=some (.bool x.has)∧w.cell? ⟨a,1,none⟩=some (.int .i64 x.g.s)∧w.cell? ⟨a,2,none⟩=some (.int .i64 x.g.z)∧w.cell? ⟨a,3,none⟩=some (.int .i64 x.g.h)∧w.cell? ⟨a,4,none⟩=some (.slice A n c):=
 ⟨h.head.cell rfl,h.head.cell rfl,h.head.cell rfl,h.head.cell rfl,h.head.cell rfl⟩
theorem RS.cap (h:RS w H N a x E A n c):n≤c∧c≤9223372036854775807:=by
 rcases h.own.2 with⟨hv,h0⟩|⟨g,cap,cur,hv,_,_,h1,h2,_⟩
 ·simp only [Value.slice.injEq] at hv
  obtain⟨_,rfl,rfl⟩:=hv
  exact⟨by omega,by omega⟩
 ·simp only [Value.slice.injEq] at hv
  obtain⟨_,_,rfl⟩:=hv
  refine⟨h1,?_⟩
  unfold maxLen at h2
  omega
end
def rW (x:Rf) (n no:Int) (d:Nat):Int:=
 if x.has=false then 16 else if n≠x.g.s then 17 else if no<0∨(x.bl.length:Int)≤no then 3 else if d≠16 then 14 else 0
theorem rP_wrong {x:Rf} {n no:Int} {d:List Nat} (h:rW x n no d.length≠0):rP x n no d=(x,rW x n no d.length):=by
 unfold rW at h ⊢
 unfold rP
 by_cases h1:x.has=false
 ·rw [if_pos h1,if_pos h1]
 rw [if_neg h1] at h ⊢
 rw [if_neg h1]
 by_cases h2:n≠x.g.s
 ·rw [if_pos h2,if_pos h2]
 rw [if_neg h2] at h ⊢
 rw [if_neg h2]
 by_cases h3:no<0∨(x.bl.length:Int)≤no
 ·rw [if_pos h3,if_pos h3]
 rw [if_neg h3] at h ⊢
 rw [if_neg h3]
 by_cases h4:d.length≠16
 ·rw [if_pos h4,if_pos h4]
 rw [if_neg h4] at h
 exact absurd rfl h
theorem wrong_any (H N:Nat→Prop) (a:Nat) (x:Rf) (n no:Int) (D:Option Addr) (m d:Nat) (w:World) (h:RSl w H N a x) (hm:m≤9223372036854775807) :
 Calls Tryz.prog 141 #[.pointer (some ⟨a,0,none⟩),.int .i64 n,.int .i64 no,.slice D m d] w fun e w'=>e=.returned (.int .i64 (rW x n no m))∧w=w':=by
 obtain⟨E,A,k,c,h⟩:=h
 obtain⟨c0,c1,c2,c3,c4⟩:=h.cells
 have hlen:=h.len
 have hcap:=h.cap
 have hk63:k≤9223372036854775807:=by omega
 clear h
 cases hh:x.has
 ·have hr:rW x n no m=16:=by unfold rW;rw [if_pos hh]
  rw [hh] at c0
  have HR:=Hz hr
  clear hr hlen
  go_enter Tryz.func141,Tryz.ntmps141
  go_wp2
  go_ret
  exact⟨by rw [HR.out];rfl,rfl⟩
 ·rw [hh] at c0
  by_cases hs:n=x.g.s
  ·by_cases hno:no<0
   ·have HR:=Hz (show rW x n no m=3 from by unfold rW;rw [if_neg (by rw [hh];simp),if_neg (by simpa using hs),if_pos (.inl hno)])
    have hd:(n != x.g.s)=false:=by simpa using hs
    clear hs hlen
    go_enter Tryz.func141,Tryz.ntmps141
    go_wp2
    go_ret
    exact⟨by rw [HR.out];rfl,rfl⟩
   ·by_cases hle:(k:Int)≤no
    ·have HR:=Hz (show rW x n no m=3 from by unfold rW;rw [if_neg (by rw [hh];simp),if_neg (by simpa using hs),if_pos (.inr (by omega))])
     have hd:(n != x.g.s)=false:=by simpa using hs
     clear hs hlen
     go_enter Tryz.func141,Tryz.ntmps141
     go_wp2
     go_ret
     exact⟨by rw [HR.out];rfl,rfl⟩
    ·by_cases hm16:m=16
     ·have HR:=Hz (show rW x n no m=0 from by unfold rW;rw [if_neg (by rw [hh];simp),if_neg (by simpa using hs),if_neg (by omega),if_neg (by omega)])
      have hd:(n != x.g.s)=false:=by simpa using hs
      clear hs hlen
      subst hm16
      go_enter Tryz.func141,Tryz.ntmps141
      go_wp2
      go_ret
      exact⟨by rw [HR.out];rfl,rfl⟩
     ·have HR:=Hz (show rW x n no m=14 from by unfold rW;rw [if_neg (by rw [hh];simp),if_neg (by simpa using hs),if_neg (by omega),if_pos hm16])
      have hd:(n != x.g.s)=false:=by simpa using hs
      have hd2:((m:Int) != 16)=true:=by simp;omega
      clear hs hlen hm16
      go_enter Tryz.func141,Tryz.ntmps141
      go_wp2
      go_ret
      exact⟨by rw [HR.out];rfl,rfl⟩
  ·have HR:=Hz (show rW x n no m=17 from by unfold rW;rw [if_neg (by rw [hh];simp),if_pos hs])
   have hd:(n != x.g.s)=true:=by simpa using hs
   clear hs hlen
   go_enter Tryz.func141,Tryz.ntmps141
   go_wp2
   go_ret
   exact⟨by rw [HR.out];rfl,rfl⟩
end StgA
namespace StgB
open Go.RowKit Kit Byt Mem RecM BitM BitB BitC StgM StgA
open RecA (n64 sok rblocks_any rrights_any bool_of)
def Rgo (H N:Nat→Prop) (a:Nat) (w:World) (v:Value) (x':Rf) (e:Ending) (w':World):Prop:=
 e=.returned v∧∃H' N',RSl w' H' N' a x'∧Keep H w w'∧(∀k,H' k→H k∨w.heap.size≤k)∧(∀k,N' k→N k∨w.heap.size≤k)
theorem info_bs:(Tryz.prog.info? 52).map (fun i=>(i.zero,i.size,i.bytes))=some (some (.slice none 0 0),1,24):=by kernel_rfl
theorem size_stg:(Tryz.prog.info? 80).map (·.size)=some 3:=by kernel_rfl
def noSl:Sl:=⟨none,0,0,[]⟩
theorem no_sls (k:Nat):(List.replicate k noSl).map Sl.val=List.replicate k (Value.slice none 0 0):=by simp [noSl,Sl.val]
theorem no_xs (k:Nat):(List.replicate k noSl).map (·.xs)=List.replicate k []:=by simp [noSl]
theorem rbegin_any (H N:Nat→Prop) (a:Nat) (x:Rf) (n z:Int) (w:World) (h:RSl w H N a x) (hn:n64 n) (hz:n64 z) :
 Calls Tryz.prog 92 #[.pointer (some ⟨a,0,none⟩),.int .i64 n,.int .i64 z] w (Rgo H N a w (.int .i64 (rB x n z).2) (rB x n z).1):=by
 obtain⟨i0,hi0,hz0,hz1,hz2⟩:=info_parts info_bs
 obtain⟨E,A,m,c,h⟩:=h
 have hal:=h.hlt a h.ha
 have HS:=Hz h
 have HR:=Hz (fun b (hb:b=true↔(fresh n z).right) w'=>rrights_any (fresh n z) w' ⟨hn,hz,by show n64 0;unfold n64;omega⟩ b hb)
 by_cases hr:(fresh n z).right
 ·have HRT:=Hz (fun w'=>HR.out true (by simpa using hr) w')
  have hz1':1≤z∧z≤160:=hr.2.1
  have HBL:=Hz (fun w'=>rblocks_any z w' (by omega) (by omega))
  have hk10:=blocks_10 hz1'.2
  have hk1:1≤blocks z:=by unfold blocks;omega
  have HX:=Hz (show rB x n z=(⟨true,fresh n z,List.replicate (blocks z) []⟩,0) from by unfold rB;rw [if_pos hr])
  obtain⟨k,hk⟩:∃k,k=blocks z:=⟨_,rfl⟩
  rw [←hk] at HBL hk10 hk1 HX
  clear hk hr HR h hn hz
  have HX':Hid (∀w',Calls Tryz.prog 139 #[.agg #[.int .i64 n,.int .i64 z,.int .i64 0]] w' (RecA.Yes w' true)):=HRT
  go_enter Tryz.func92,Tryz.ntmps92
  go_wp2_with fail
  refine (HX'.out _).mono ?_
  rintro e w1 ⟨rfl,hb1⟩
  have hS1:=HS.out.below (((Below.refl w.heap.size w).alloc (Nat.le_refl _) (.cells #[.int .i64 n,.int .i64 z,.int .i64 0] 80)).trans (hb1.mono (by simp)))
  have hB1:=(Blk.new w 80 [.int .i64 n,.int .i64 z,.int .i64 0]).below hb1
  have hK1:Keep (fun i=>i=a) w w1:=Keep.of_below (((Below.refl w.heap.size w).alloc (Nat.le_refl _) (.cells #[.int .i64 n,.int .i64 z,.int .i64 0] 80)).trans (hb1.mono (by simp)))
  have c0:=hS1.head.cell (i:=0) rfl
  have f0:=hS1.head.frozen 0
  have HS1:=Hz hS1
  have HB1:=Hz hB1
  have HK1:=Hz hK1
  have hne:w.heap.size≠a:=by omega
  clear hS1 hB1 hK1 hb1 HX' HRT
  go_wp2_with (first
   | (refine wpList_load_blk rfl 80 _ rfl w.heap.size rfl (HB1.out.far (p:=⟨a,0,none⟩) hne _) Tryz.underlying80 rfl size_stg ?_)
   | (refine wpList_store_part rfl 80 (.tmp 20) (.tmp 18) rfl a 1 rfl [.int .i64 n,.int .i64 z,.int .i64 0] rfl (HS1.out.head.set 0 (.bool true)) (by simp [hd]) size_stg (by intro u hu;simp at hu;rcases hu with rfl|rfl|rfl <;> rfl) ?_;intro w2 hB2 ho2;have HB2:=Hz (show Blk w2 a 97 (hd ⟨true,fresh n z,[]⟩ A m c) from hB2.out))
   | (go_at_call 140;refine (HBL.out _).mono ?_;rintro e w' ⟨rfl,rfl⟩)
   | (at_make;refine wpList_make_room _ rfl _ _ _ rfl 52 i0 _ 24 Tryz.underlying95 hi0 hz0 hz1 hz2 rfl _ _ _ _ k k rfl rfl (by omega) (by omega) (by omega) (by omega) (by omega) ?_;intro w3 H3 hb3 hs3;have c4:=(HB2.out.below hb3).cell (i:=4) rfl;have f4:=(HB2.out.below hb3).frozen 4))
  go_ret
  have ha:H a:=HS.out.ha
  have ks:Keep (fun i=>i=a) w1 w2:=(Keep.set (F:=fun i=>i=a) w1 0 (.bool true) rfl).trans (Keep.only (F:=fun i=>i=a) ho2.out rfl) fun i hi=>.inl hi
  have k3:Keep (fun i=>i=a) w w3:=(HK1.out.trans ks (fun i hi=>.inl hi)).trans (Keep.of_below (F:=fun i=>i=a) hb3) (fun i hi=>.inl hi)
  have k5:Keep (fun i=>i=a) w (w3.setCell ⟨a,4,none⟩ (.slice (some ⟨w2.heap.size,0,none⟩) k k)):=k3.trans (Keep.set (F:=fun i=>i=a) w3 4 _ rfl) fun i hi=>.inl hi
  have hw2:w.heap.size≤w2.heap.size:=by have:=HK1.out.size;have:=ks.size;omega
  have hs5:(w3.setCell ⟨a,4,none⟩ (.slice (some ⟨w2.heap.size,0,none⟩) k k)).heap.size=w2.heap.size+1:=by rw [←hs3];simp [World.setCell]
  have hown:w3.ownsRow 0 52 1 (.slice (some ⟨w2.heap.size,0,none⟩) k k) k (List.replicate k (.slice none 0 0)):=by
   have h:=own_of_block (base:=0) (n:=k) H3.out (Nat.zero_le _) (by simp) (by simp;omega)
   rw [List.length_replicate] at h
   simpa using h
  refine⟨by rw [HX.out];rfl,fun i=>i=a∨i=w2.heap.size,fun _=>False,⟨List.replicate k noSl,some ⟨w2.heap.size,0,none⟩,k,k,?_,?_,?_,?_,.inl rfl,?_,?_,fun i hi=>hi.elim,fun _ _ h=>h⟩,k5.mono (fun i _ hi=>hi▸ha),fun i hi=>?_,fun i hi=>hi.elim⟩
  ·rw [HX.out]
   exact (HB2.out.below hb3).set 4 _
  ·rw [no_sls]
   exact (Keep.set (F:=fun i=>i=a) w3 4 _ rfl).own hown fun i hi=>by
    have hi':w2.heap.size=i:=Option.some.inj hi
    show ¬i=a
    omega
  ·rw [HX.out,no_xs]
  ·intro e he
   rw [List.eq_of_mem_replicate he]
   exact⟨Rd.nil _,fun b o hA=>by cases hA⟩
  ·intro i hi
   have hi':w2.heap.size=i:=Option.some.inj hi
   exact⟨.inr hi'.symm,by omega⟩
  ·intro i hi
   rw [hs5]
   rcases hi with rfl|rfl <;> omega
  ·rcases hi with rfl|rfl
   ·exact .inl ha
   ·exact .inr hw2
 ·have HRF:=Hz (fun w'=>HR.out false (by simpa using hr) w')
  have HX:=Hz (show rB x n z=(x,3) from by unfold rB;rw [if_neg hr])
  have HX':Hid (∀w',Calls Tryz.prog 139 #[.agg #[.int .i64 n,.int .i64 z,.int .i64 0]] w' (RecA.Yes w' false)):=HRF
  clear hr HR h hn hz HRF
  go_enter Tryz.func92,Tryz.ntmps92
  go_wp2_with fail
  refine (HX'.out _).mono ?_
  rintro e w1 ⟨rfl,hb1⟩
  have HL:=Hz (((Below.refl w.heap.size w).alloc (Nat.le_refl _) (.cells #[.int .i64 n,.int .i64 z,.int .i64 0] 80)).trans (hb1.mono (by simp)))
  clear hb1
  go_wp2
  go_ret
  refine⟨by rw [HX.out];rfl,H,N,⟨E,A,m,c,?_⟩,Keep.of_below HL.out,fun k hk=>.inl hk,fun k hk=>.inl hk⟩
  rw [HX.out]
  exact HS.out.below HL.out
end StgB
namespace StgC
open Go.RowKit Kit Byt Mem RecM BitM BitB BitC StgM StgA StgB
open RecA (n64)
open RecM (pow_blocks)
theorem bl_len {x:Rf} (h:x.wf) (hh:x.has=true):x.bl.length≤10:=by rw [h.len hh];exact blocks_10 (h.right hh).2.1.2
theorem own_set {w:World} {base n c i:Nat} {e:TypeId} {A:Option Addr} {xs:List Value} (h:w.ownsRow base e 1 (.slice A n c) n xs) (hi:i<n) :
 ∃g,A=some ⟨g,0,none⟩∧g<w.heap.size∧w.cell? ⟨g,i,none⟩=xs[i]?∧w.frozen? ⟨g,i,none⟩=false∧∀v,(w.setCell ⟨g,i,none⟩ v).ownsRow base e 1 (.slice A n c) n (xs.set i v):=by
 rcases h.2 with⟨hv0,h0⟩|⟨g,cap,cur,hv0,hb,hh,hnc,hcm,hcs,hx⟩
 ·simp only [Value.slice.injEq] at hv0
  omega
 ·simp only [Value.slice.injEq] at hv0
  obtain⟨rfl,_,rfl⟩:=hv0
  refine⟨g,rfl,lt_of_block hh,?_,frozen_of_row _ _ i _ _ hh,fun v=>?_⟩
  ·rw [cell_of_row w g i _ _ _ hh,←hx]
   simp [hi]
  ·refine⟨by rw [List.length_set];exact h.1,.inr ⟨g,c,cur.setIfInBounds i v,rfl,hb,heap_setCell_same w g i _ _ _ hh,hnc,hcm,by simp [hcs],?_⟩⟩
   rw [←hx]
   simp [List.take_set]
theorem rP_same {x:Rf} {n no:Int} {d:List Nat} (h:rW x n no d.length=0):rP x n no d=if x.bl.getD no.toNat []≠[] then (x,0) else (⟨true,{ x.g with h:=x.g.h+pw no },x.bl.set no.toNat d⟩,0):=by
 unfold rW at h
 unfold rP
 by_cases h1:x.has=false
 ·rw [if_pos h1] at h;exact absurd h (by decide)
 rw [if_neg h1] at h ⊢
 by_cases h2:n≠x.g.s
 ·rw [if_pos h2] at h;exact absurd h (by decide)
 rw [if_neg h2] at h ⊢
 by_cases h3:no<0∨(x.bl.length:Int)≤no
 ·rw [if_pos h3] at h;exact absurd h (by decide)
 rw [if_neg h3] at h ⊢
 by_cases h4:d.length≠16
 ·rw [if_pos h4] at h;exact absurd h (by decide)
 rw [if_neg h4]
theorem rW_zero {x:Rf} {n no:Int} {d:Nat} (h:rW x n no d=0):x.has=true∧0≤no∧no<x.bl.length∧d=16:=by
 unfold rW at h
 by_cases h1:x.has=false
 ·rw [if_pos h1] at h;exact absurd h (by decide)
 rw [if_neg h1] at h
 by_cases h2:n≠x.g.s
 ·rw [if_pos h2] at h;exact absurd h (by decide)
 rw [if_neg h2] at h
 by_cases h3:no<0∨(x.bl.length:Int)≤no
 ·rw [if_pos h3] at h;exact absurd h (by decide)
 rw [if_neg h3] at h
 by_cases h4:d≠16
 ·rw [if_pos h4] at h;exact absurd h (by decide)
 exact⟨by simpa using h1,by omega,by omega,by omega⟩
theorem rput_any (H N:Nat→Prop) (a:Nat) (x:Rf) (n no:Int) (D:Option Addr) (m d:Nat) (xs:List Nat) (w:World) (h:RSl w H N a x) (hwf:x.wf) (hR:Rd w D m d (u8n xs)) :
 Calls Tryz.prog 93 #[.pointer (some ⟨a,0,none⟩),.int .i64 n,.int .i64 no,.slice D m d] w (Rgo H N a w (.int .i64 (rP x n no xs).2) (rP x n no xs).1):=by
 obtain⟨i0,hi0,hz0,hz1,hz2⟩:=info_parts NumA.info8
 have hm:xs.length=m:=Rd.nats hR
 have hcap:=hR.cap
 have hle:=hR.le
 have HW:=Hz (fun (w':World) (h':RSl w' H N a x)=>wrong_any H N a x n no D m d w' h' (by omega))
 by_cases hr:rW x n no m=0
 ·obtain⟨hh,hno0,hnol,hm16⟩:=rW_zero hr
  have HP:=Hz (rP_same (x:=x) (n:=n) (no:=no) (d:=xs) (by rw [hm];exact hr))
  rw [hr] at HW
  obtain⟨k,rfl⟩:∃k:Nat,no=k:=⟨no.toNat,by omega⟩
  have hkl:k<x.bl.length:=by omega
  rw [show ((k:Int)).toNat=k from by omega] at HP
  obtain⟨E,A,q,c,hS⟩:=h
  have hlen:=hS.len
  have hq:k<q:=by omega
  have hEl:E.length=q:=by rw [←hlen,hS.bl,List.length_map]
  obtain⟨g,hA,hgl,hgc,hgf,hgs⟩:=own_set hS.own hq
  have hEk:(E.map Sl.val)[k]?=some (.slice E[k].A E[k].n E[k].c):=by rw [List.getElem?_map,List.getElem?_eq_getElem (by omega)];rfl
  have hxk:x.bl.getD k []=E[k].xs:=by rw [hS.bl,List.getD_eq_getElem?_getD,List.getElem?_map,List.getElem?_eq_getElem (by omega)];rfl
  have hent:=hS.ent E[k] (List.getElem_mem _)
  have hEn:E[k].xs.length=E[k].n:=Rd.nats hent.1
  rw [hEk] at hgc
  rw [hxk] at HP
  subst hA
  obtain⟨c0,c1,c2,c3,c4⟩:=hS.cells
  have hcp:=hS.cap
  have hq63:q≤9223372036854775807:=by omega
  have hr63:=hent.1.le
  have hr64:=hent.1.cap
  by_cases hn0:0<E[k].n
  ·have HX:=Hz (show rP x n k xs=(x,0) from by rw [HP.out,if_pos (fun e=>by rw [e] at hEn;simp at hEn;omega)])
   have hni:(0:Int)<(E[k].n:Int):=by omega
   have HS:=Hz (⟨E,some ⟨g,0,none⟩,q,c,hS⟩:RSl w H N a x)
   obtain⟨en,hen⟩:∃en,en=E[k].n:=⟨_,rfl⟩
   obtain⟨eA,heA⟩:∃eA,eA=E[k].A:=⟨_,rfl⟩
   obtain⟨ec,hec⟩:∃ec,ec=E[k].c:=⟨_,rfl⟩
   rw [←hen,←heA,←hec] at hgc
   rw [←hen] at hni hn0
   clear hen heA hec HP hS hEk hxk hent hEn hgs hlen hEl hr hwf hR hh hr63 hr64 hm hm16
   go_enter Tryz.func93,Tryz.ntmps93
   go_wp2_with (go_at_call 141;refine (HW.out _ HS.out).mono ?_;rintro e w' ⟨rfl,rfl⟩)
   go_ret
   refine⟨by rw [HX.out];rfl,H,N,by rw [HX.out];exact HS.out,Keep.refl _ _,fun k hk=>.inl hk,fun k hk=>.inl hk⟩
  ·have hx0:E[k].xs=[]:=List.eq_nil_of_length_eq_zero (by omega)
   have hb0:=(rP_yes hwf hh hkl (by omega:xs.length=16) (by rw [hxk];exact hx0)).1
   have HX:=Hz (show rP x n k xs=(⟨true,{ x.g with h:=x.g.h+pw k },x.bl.set k xs⟩,0) from by rw [HP.out,if_neg (fun e=>e hx0)])
   have hrt:=hwf.right hh
   have hk9:k≤15:=by have:=bl_len hwf hh;omega
   have hh0:=hrt.2.2.1
   have hh1:x.g.h<1024:=by have:=hrt.2.2.2;have:=pow_blocks hrt.2.1.2;omega
   have hp0:=pw_pos k
   have hp1:=(pw_bd k (by omega)).2
   have HPW:=Hz (fun w'=>rpower_any k w' (by omega))
   have HS:=Hz hS
   have HSL:=Hz (⟨E,some ⟨g,0,none⟩,q,c,hS⟩:RSl w H N a x)
   have hen0:E[k].n=0:=by omega
   rw [hen0] at hgc
   obtain⟨eA,heA⟩:∃eA,eA=E[k].A:=⟨_,rfl⟩
   obtain⟨ec,hec⟩:∃ec,ec=E[k].c:=⟨_,rfl⟩
   rw [←heA,←hec] at hgc
   have HR:=Hz hR
   have HGS:=Hz hgs
   have HEL:=Hz hEl
   have hga:g≠a:=(hS.ho g rfl).2
   have hal:=hS.hlt a hS.ha
   have HHT:=Hz hh
   obtain⟨P,hP⟩:∃P,P=pw k:=⟨_,rfl⟩
   rw [←hP] at HX hp0 hp1 HPW
   clear heA hec HP hS hEk hxk hent hEn hgs hlen hEl hr hwf hR hh hr63 hr64 hn0 hx0 hrt hm hen0 hb0 hP
   have hm16':m≤16:=by omega
   clear hm16
   go_enter Tryz.func93,Tryz.ntmps93
   go_wp2_with (first
    | (go_at_call 141;refine (HW.out _ HSL.out).mono ?_;rintro e w' ⟨rfl,rfl⟩)
    | (at_builtin;refine wpList_add _ rfl (.tmp 30) (.tmp 31) _ rfl w.heap.size 5 i0 _ 1 Tryz.underlying52 hi0 hz0 hz1 hz2 rfl _ 0 [] rfl (World.ownsRow_nil _ _ _ _) D m d (u8n xs) rfl HR.out (u8n_one _) (by omega) (by omega) (Nat.le_refl _) ?_;intro A1 n1 d1 w1 hn1 hown1 hg1 hat1;have hb1:Below w.heap.size w w1:=below_add (Below.refl _ _) (World.ownsRow_nil w w.heap.size 5 1) (Nat.le_refl _) hg1;have hgc1:=(hb1.cell (p:=⟨g,k,none⟩) hgl).trans hgc;have hgf1:=(hb1.frozen (p:=⟨g,k,none⟩) hgl).trans hgf;have c4':=(hb1.cell (p:=⟨a,4,none⟩) hal).trans c4))
   have hkb:Keep (fun i=>i=g) w1 (w1.setCell ⟨g,k,none⟩ (.slice A1 n1 d1)):=Keep.set (F:=fun i=>i=g) w1 k _ rfl
   have hS1:=HS.out.below hb1
   have hH2:=hkb.blk hS1.head (by show ¬a=g;omega)
   have hO2:(w1.setCell ⟨g,k,none⟩ (.slice A1 n1 d1)).ownsRow 0 52 1 (.slice (some ⟨g,0,none⟩) q c) q ((E.map Sl.val).set k (.slice A1 n1 d1)):=by
    obtain⟨g',hg',_,_,_,hs⟩:=own_set hS1.own hq
    injection hg' with hg'
    injection hg' with hg'
    subst hg'
    exact hs _
   have hN2:=hkb.own hown1 fun i hi=>by
    have:=(hown1.lt i hi).1
    show ¬i=g
    omega
   have HH2:=Hz hH2
   have HO2:=Hz hO2
   have HN2:=Hz hN2
   have HK2:=Hz hkb
   have HB1:=Hz hb1
   have c3':=hH2.cell (i:=3) rfl
   have f3':=hH2.frozen 3
   have hwr:IntKind.i64.wrap (x.g.h+P)=x.g.h+P:=by rw [IntKind.wrap_i64];omega
   obtain⟨w2,hw2⟩:∃w2,w2=w1.setCell ⟨g,k,none⟩ (.slice A1 n1 d1):=⟨_,rfl⟩
   rw [←hw2] at HH2 HO2 HN2 HK2 c3' f3' ⊢
   clear hw2 hkb hS1 hH2 hO2 hN2 hb1 hown1 hgc1 hgf1 c4' hg1 hat1 c0 c1 c2 c3 c4 hgc hgf
   go_still_tail 8,(by kernel_rfl)
   repeat still_step
   refine wpStill_step (fun K hK=>?_)
   go_simp
   refine⟨_,(HPW.out _).mono (fun e w' h=>⟨h.1,h.2.symm⟩),hK _ ?_⟩
   clear hK K
   repeat still_step
   refine wpStill_nil ?_
   change wpList _ _ _ _ _ w2.drew
   go_wp2
   go_ret
   have ha:=HS.out.ha
   have hg:=(HS.out.ho g rfl).1
   have kA:Keep H w w2:=(Keep.of_below (F:=H) HB1.out).trans HK2.out (fun i hi=>.inl (by rw [show i=g from hi];exact hg))
   have kB:Keep (fun i=>i=a) w2 (w2.drew.setCell ⟨a,3,none⟩ (.int .i64 (x.g.h+P))):=(Keep.refl (fun i=>i=a) w2).drew.trans (Keep.set (F:=fun i=>i=a) w2.drew 3 _ rfl) (fun i hi=>.inl hi)
   have kC:Keep H w (w2.drew.setCell ⟨a,3,none⟩ (.int .i64 (x.g.h+P))):=kA.trans kB (fun i hi=>.inl (by rw [show i=a from hi];exact ha))
   have hN3:=kB.own HN2.out fun i hi=>by
    have:=(HN2.out.lt i hi).1
    show ¬i=a
    omega
   have hA1:∀i,(Value.slice A1 n1 d1).ownBlock=some i→w.heap.size≤i:=fun i hi=>(HN2.out.lt i hi).1
   refine⟨by rw [HX.out];rfl,H,fun i=>N i∨(Value.slice A1 n1 d1).ownBlock=some i,⟨E.set k ⟨A1,n1,d1,xs⟩,some ⟨g,0,none⟩,q,c,?_,?_,?_,?_,ha,HS.out.ho,fun i hi=>?_,fun i hi=>?_,fun i hi hn=>?_⟩,kC,fun i hi=>.inl hi,fun i hi=>?_⟩
   ·rw [HX.out]
    have h1:=(show Blk w2.drew a 97 (hd x (some ⟨g,0,none⟩) q c) from HH2.out).set 3 (.int .i64 (x.g.h+P))
    rw [show (hd x (some ⟨g,0,none⟩) q c).set 3 (.int .i64 (x.g.h+P))=hd ⟨true,{ x.g with h:=x.g.h+P },x.bl.set k xs⟩ (some ⟨g,0,none⟩) q c from by unfold hd;rw [HHT.out];rfl] at h1
    exact h1
   ·have h1:=kB.own HO2.out fun i hi=>by
     have hi':g=i:=Option.some.inj hi
     show ¬i=a
     omega
    rw [List.map_set]
    exact h1
   ·rw [HX.out]
    show x.bl.set k xs=_
    rw [HS.out.bl,List.map_set]
   ·intro e he
    rcases List.mem_or_eq_of_mem_set he with h1|h1
    ·have h2:=HS.out.ent e h1
     exact⟨kC.rd h2.1 fun _ b o hA hH=>HS.out.dis b hH (h2.2 b o hA),fun b o hA=>.inl (h2.2 b o hA)⟩
    ·subst h1
     refine⟨Rd.own hN3,fun b o hA=>.inr ?_⟩
     have hA':A1=some ⟨b,o,none⟩:=hA
     rw [hA']
     rfl
   ·exact Nat.lt_of_lt_of_le (HS.out.hlt i hi) kC.size
   ·rcases hi with hi|hi
    ·exact Nat.lt_of_lt_of_le (HS.out.nlt i hi) kC.size
    ·exact (hN3.lt i hi).2
   ·rcases hn with hn|hn
    ·exact HS.out.dis i hi hn
    ·have:=hA1 i hn
     have:=HS.out.hlt i hi
     omega
   ·rcases hi with hi|hi
    ·exact .inl hi
    ·exact .inr (hA1 i hi)
 ·have HX:=Hz (show rP x n no xs=(x,rW x n no m) from by rw [←hm];exact rP_wrong (by rw [hm];exact hr))
  have HS:=Hz h
  obtain⟨r,hr'⟩:∃r,r=rW x n no m:=⟨_,rfl⟩
  rw [←hr'] at HX HW hr
  have hrb:(r != 0)=true:=by simpa using hr
  clear hr' hr h hwf hR hm
  go_enter Tryz.func93,Tryz.ntmps93
  go_wp2_with (go_at_call 141;refine (HW.out _ HS.out).mono ?_;rintro e w' ⟨rfl,rfl⟩)
  go_ret
  refine⟨by rw [HX.out];rfl,H,N,by rw [HX.out];exact HS.out,Keep.refl _ _,fun k hk=>.inl hk,fun k hk=>.inl hk⟩
end StgC
namespace StoA
open Go.RowKit Kit Byt Mem RecM BitM BitB BitC StgM
open StgA (hd rW rP_wrong)
open StgB (info_bs size_stg noSl no_sls no_xs)
open StgC (bl_len own_set rP_same rW_zero)
open RecA (n64 sok)
theorem spl_get {α:Type} {C h:List α} {o i:Nat} {v:α} (hf:o+h.length≤C.length) (hi:h[i]?=some v):(splice C o h)[o+i]?=some v:=by
 have hl:=(List.getElem?_eq_some_iff.1 hi).1
 unfold splice
 rw [List.getElem?_append_right (by rw [List.length_take];omega),List.length_take,show o+i-min o C.length=i from by omega,List.getElem?_append_left hl]
 exact hi
structure RO (w:World) (H N:Nat→Prop) (b o:Nat) (C:List Value) (x:Rf) (E:List Sl) (A:Option Addr) (n c:Nat):Prop where
 head:Blk w b 97 (splice C o (hd x A n c))
 fit:o+5≤C.length
 own:w.ownsRow 0 52 1 (.slice A n c) n (E.map Sl.val)
 bl:x.bl=E.map (·.xs)
 ent:∀e ∈ E,Rd w e.A e.n e.c (u8n e.xs)∧∀q o,e.A=some ⟨q,o,none⟩→N q
 ha:H b
 ho:∀k,(Value.slice A n c).ownBlock=some k→H k∧k≠b
 hlt:∀k,H k→k<w.heap.size
 nlt:∀k,N k→k<w.heap.size
 dis:∀k,H k→¬N k
def ROl (w:World) (H N:Nat→Prop) (b o:Nat) (C:List Value) (x:Rf):Prop:=∃E A n c,RO w H N b o C x E A n c
section
variable {w w':World} {H N G:Nat→Prop} {b o n c:Nat} {C:List Value} {x:Rf} {E:List Sl} {A:Option Addr}
theorem RO.keep (h:RO w H N b o C x E A n c) (k:Keep G w w') (h1:∀i,H i→¬G i) (h2:∀i,N i→¬G i):RO w' H N b o C x E A n c:=
 ⟨k.blk h.head (h1 _ h.ha),h.fit,k.own h.own fun i hi=>h1 i (h.ho i hi).1,h.bl,fun e he=>⟨k.rd (h.ent e he).1 fun _ q o hA=>h2 q ((h.ent e he).2 q o hA),(h.ent e he).2⟩,h.ha,h.ho,
  fun i hi=>Nat.lt_of_lt_of_le (h.hlt i hi) k.size,fun i hi=>Nat.lt_of_lt_of_le (h.nlt i hi) k.size,h.dis⟩
theorem ROl.keep (h:ROl w H N b o C x) (k:Keep G w w') (h1:∀i,H i→¬G i) (h2:∀i,N i→¬G i):ROl w' H N b o C x:=by
 obtain⟨E,A,n,c,h⟩:=h
 exact⟨E,A,n,c,h.keep k h1 h2⟩
theorem ROl.below (h:ROl w H N b o C x) (hb:Below w.heap.size w w'):ROl w' H N b o C x:=h.keep (Keep.of_below (F:=fun _=>False) hb) (fun _ _ h=>h) (fun _ _ h=>h)
end
end StoA
namespace StgD
open Go.RowKit Kit Byt Mem RecM BitM BitB BitC StgM StgA StgB StgC
theorem flat_next {l:List (List Nat)} {j:Nat} (h:j<l.length):(l.take (j+1)).flatten=(l.take j).flatten++l.getD j []:=by
 rw [List.take_add_one,List.flatten_append,List.getD_eq_getElem?_getD,List.getElem?_eq_getElem h]
 simp
theorem size_rsl:(Tryz.prog.info? 97).map (·.size)=some 5:=by kernel_rfl
theorem hd_one (x:Rf) (A:Option Addr) (n c:Nat):∀u ∈ hd x A n c,u.oneCell'=true:=by
 intro u hu
 simp [hd] at hu
 rcases hu with rfl|rfl|rfl|rfl|rfl <;> rfl
theorem own_mono1 {w:World} {b b':Nat} {e:TypeId} {v:Value} {n:Nat} {xs:List Value} (h:w.ownsRow b' e 1 v n xs) (hb:b≤b'):w.ownsRow b e 1 v n xs:=by
 refine⟨h.1,?_⟩
 rcases h.2 with h1|⟨g,cap,cur,hv,hg,hrest⟩
 ·exact .inl h1
 ·exact .inr ⟨g,cap,cur,hv,by omega,hrest⟩
end StgD
end Go.Proofs.YtkepomnbhnnliaaGreatDoor
