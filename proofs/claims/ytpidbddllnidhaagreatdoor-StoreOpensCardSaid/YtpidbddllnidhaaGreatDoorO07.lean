/- Parts of the proof, each under the conditions that it names. -/
import Derived.Test.YtpidbddllnidhaaGreatDoorO06
import Derived.Deep.Quiet
import Derived.ChangeKeysEq
import Derived.Laws.StructEq
import Derived.Laws.BitsAllLaws
import Derived.Laws.BitsLemmas
set_option maxRecDepth 100000
set_option maxHeartbeats 12800000
namespace Go.Proofs.YtpidbddllnidhaaGreatDoor
open Go.RowKit
namespace TxtR
open Kit NumA NumB TabR
def Newer (w:World) (A:Option Addr) (n:Nat):Prop:=0<n→∀b o,A=some ⟨b,o,none⟩→w.heap.size≤b
theorem Lj {w w1 w2:World} {e:TypeId} {A:Option Addr} {n c:Nat} {xs:List Value} (h:w2.ownsRow w1.heap.size e 1 (.slice A n c) n xs) (hs:w.heap.size≤w1.heap.size):Newer w A n:=fun _ b o hA=>by
 have:=(h.lt b (by rw [hA];rfl)).1
 omega
def Gav (w:World) (b:Nat) (ys xs:List Int) (x:Int) (e:Ending) (w':World):Prop:=
 ∃A n c,e=.returned (.slice A n c)∧Rd w' A n c (u8s ys)∧St w' b xs x∧w.grownBy w' (some b)∧Newer w A n
theorem bytes_ok (b k:Nat) (xs:List Int) (w:World) (h:St w b xs 0) (hk:k≤xs.length) (hl:k≤100000000000000) :
 Calls Tryz.prog 197 #[.pointer (some ⟨b,0,none⟩),.int .i64 k] w (Gav w b (xs.take k) (xs.drop k) 0):=by
 have S:Hid (St w b xs 0):=h
 obtain⟨A,n,c,h,hr0,_⟩:=h
 have H:Hid (w.heap[b]?=some (.cells #[.slice A n c,.int .i64 0] 257 (0,0))):=h
 clear h hr0
 go_enter Tryz.func197,Tryz.ntmps197
 go_wp2_with (first
  | (go_at_call 195;refine (next_no _ _ _ _ _ H.o).mono ?_;rintro e w' ⟨rfl,rfl⟩)
  | (go_at_call 214;refine (goOn_ok b k xs w S.o hk).mono ?_;rintro e w1 ⟨A1,n1,c1,rfl,hr1,hs1,hd1⟩;have hn1:n1≤100000000000000:=by have:=Rd.bytes hr1;simp at this;omega)
  | (go_at_call 166;refine (clone_any _ _ _ _ _ hr1 hn1).mono ?_;rintro e w2 ⟨A2,n2,c2,hn2,rfl,hown2,hb2⟩))
 go_ret
 exact⟨A2,n2,c2,rfl,Rd.own hown2,St.below hs1 hb2,Vv hd1 (did_below hb2 _),Lj hown2 hd1.size⟩
theorem bytes_short (b k:Nat) (xs:List Int) (w:World) (h:St w b xs 0) (hk:xs.length<k) (hl:k≤100000000000000) :
 Calls Tryz.prog 197 #[.pointer (some ⟨b,0,none⟩),.int .i64 k] w (Gav w b [] xs 1):=by
 have S:Hid (St w b xs 0):=h
 obtain⟨A,n,c,h,hr0,_⟩:=h
 have H:Hid (w.heap[b]?=some (.cells #[.slice A n c,.int .i64 0] 257 (0,0))):=h
 clear h hr0
 go_enter Tryz.func197,Tryz.ntmps197
 go_wp2_with (first
  | (go_at_call 195;refine (next_no _ _ _ _ _ H.o).mono ?_;rintro e w' ⟨rfl,rfl⟩)
  | (go_at_call 214;refine (goOn_short b k xs w S.o hk (by omega)).mono ?_;rintro e w1 ⟨A1,n1,c1,rfl,hr1,hs1,hd1⟩;have hn1:n1≤100000000000000:=by have:=Rd.bytes hr1;simp at this;omega)
  | (go_at_call 166;refine (clone_any _ _ _ _ _ hr1 hn1).mono ?_;rintro e w2 ⟨A2,n2,c2,hn2,rfl,hown2,hb2⟩))
 go_ret
 exact⟨A2,n2,c2,rfl,Rd.own hown2,St.below hs1 hb2,Vv hd1 (did_below hb2 _),Lj hown2 hd1.size⟩
theorem bytes_fault (b:Nat) (x:Int) (xs:List Int) (e:Int) (w:World) (h:St w b xs e) (he:(e != 0)=true) :
 Calls Tryz.prog 197 #[.pointer (some ⟨b,0,none⟩),.int .i64 x] w (Gav w b [] xs e):=by
 have S:Hid (St w b xs e):=h
 obtain⟨A,n,c,h,hr0,_⟩:=h
 have H:Hid (w.heap[b]?=some (.cells #[.slice A n c,.int .i64 e] 257 (0,0))):=h
 clear h hr0
 go_enter Tryz.func197,Tryz.ntmps197
 go_wp2_with (first
  | (go_at_call 195;refine (next_yes _ _ _ _ _ _ H.o he).mono ?_;rintro e w' ⟨rfl,rfl⟩)
  | (go_at_call 213;refine (stay_any _ _ _).mono ?_;rintro e w' ⟨rfl,rfl⟩)
  | (go_at_call 166;refine (clone_any none 0 0 [] _ (Rd.nil _) (by omega)).mono ?_;rintro e w2 ⟨A2,n2,c2,hn2,rfl,hown2,hb2⟩))
 all_goals (go_ret;exact⟨A2,n2,c2,rfl,Rd.own hown2,St.below S.o hb2,did_below hb2 _,Lj hown2 (Mr _)⟩)
theorem text_ok (b k most:Nat) (xs:List Int) (w:World) (h:St w b xs 0) (h2:2≤xs.length) (h8:∀u ∈ xs,0≤u∧u≤255) (hk:num (xs.take 2)=k) (hm:k≤most) (hl:2+k≤xs.length) (hkl:k≤100000000000000) :
 Calls Tryz.prog 176 #[.pointer (some ⟨b,0,none⟩),.int .i64 most] w (Gav w b ((xs.drop 2).take k) ((xs.drop 2).drop k) 0):=by
 have S:Hid (St w b xs 0):=h
 have HK:Hid (num (xs.take 2)=k):=hk
 have H8:Hid (∀u ∈ xs,0≤u∧u≤255):=h8
 clear h hk h8
 go_enter Tryz.func176,Tryz.ntmps176
 go_wp2_with (first
  | (go_at_call 175;refine (num_ok b 2 xs w S.o (by rw [Ut];exact h2) H8.o).mono ?_;rw [Ut,HK.o];rintro e w1 ⟨rfl,hs1,hd1⟩)
  | (go_at_call 197;refine (bytes_ok b k (xs.drop 2) _ hs1 (by simp;omega) hkl).mono ?_;rintro e w2 ⟨A2,n2,c2,rfl,hr2,hs2,hd2,hq2⟩))
 go_ret
 exact⟨A2,n2,c2,rfl,hr2,hs2,Vv hd1 hd2,fun h b o hA=>Ml hd1.size (hq2 h b o hA)⟩
theorem Lz (b most:Nat) (xs:List Int) (w:World) (h:St w b xs 0) (h2:xs.length<2) :
 Calls Tryz.prog 176 #[.pointer (some ⟨b,0,none⟩),.int .i64 most] w (Gav w b [] xs 1):=by
 have S:Hid (St w b xs 0):=h
 clear h
 go_enter Tryz.func176,Tryz.ntmps176
 go_wp2_with (first
  | (go_at_call 175;refine (num_short b 2 xs w S.o (by rw [Ut];exact h2)).mono ?_;rintro e w1 ⟨rfl,hs1,hd1⟩)
  | (go_at_call 197;refine (bytes_fault b 0 xs 1 _ hs1 (by decide)).mono ?_;rintro e w2 ⟨A2,n2,c2,rfl,hr2,hs2,hd2,hq2⟩))
 go_ret
 exact⟨A2,n2,c2,rfl,hr2,hs2,Vv hd1 hd2,fun h b o hA=>Ml hd1.size (hq2 h b o hA)⟩
theorem Lv (b k most:Nat) (xs:List Int) (w:World) (h:St w b xs 0) (h2:2≤xs.length) (h8:∀u ∈ xs,0≤u∧u≤255) (hk:num (xs.take 2)=k) (hm:k≤most) (hl:xs.length<2+k) (hkl:k≤100000000000000) :
 Calls Tryz.prog 176 #[.pointer (some ⟨b,0,none⟩),.int .i64 most] w (Gav w b [] (xs.drop 2) 1):=by
 have S:Hid (St w b xs 0):=h
 have HK:Hid (num (xs.take 2)=k):=hk
 have H8:Hid (∀u ∈ xs,0≤u∧u≤255):=h8
 clear h hk h8
 go_enter Tryz.func176,Tryz.ntmps176
 go_wp2_with (first
  | (go_at_call 175;refine (num_ok b 2 xs w S.o (by rw [Ut];exact h2) H8.o).mono ?_;rw [Ut,HK.o];rintro e w1 ⟨rfl,hs1,hd1⟩)
  | (go_at_call 197;refine (bytes_short b k (xs.drop 2) _ hs1 (by simp;omega) hkl).mono ?_;rintro e w2 ⟨A2,n2,c2,rfl,hr2,hs2,hd2,hq2⟩))
 go_ret
 exact⟨A2,n2,c2,rfl,hr2,hs2,Vv hd1 hd2,fun h b o hA=>Ml hd1.size (hq2 h b o hA)⟩
theorem qq9 (b most:Nat) (xs:List Int) (e:Int) (w:World) (h:St w b xs e) (he:(e != 0)=true) :
 Calls Tryz.prog 176 #[.pointer (some ⟨b,0,none⟩),.int .i64 most] w (Gav w b [] xs e):=by
 have S:Hid (St w b xs e):=h
 clear h
 go_enter Tryz.func176,Tryz.ntmps176
 go_wp2_with (first
  | (go_at_call 175;refine (num_fault b 2 xs e w S.o he).mono ?_;rintro e w1 ⟨rfl,hs1,hd1⟩)
  | (go_at_call 197;refine (bytes_fault b 0 xs e _ hs1 he).mono ?_;rintro e w2 ⟨A2,n2,c2,rfl,hr2,hs2,hd2,hq2⟩))
 go_ret
 exact⟨A2,n2,c2,rfl,hr2,hs2,Vv hd1 hd2,fun h b o hA=>Ml hd1.size (hq2 h b o hA)⟩
def rtx (xs:List Int) (e:Int):List Int×List Int×Int:=
 if e≠0 then ([],xs,e) else if xs.length<2 then ([],xs,1) else if 2+(num (xs.take 2)).toNat≤xs.length then ((xs.drop 2).take (num (xs.take 2)).toNat,(xs.drop 2).drop (num (xs.take 2)).toNat,0) else ([],xs.drop 2,1)
theorem num_two {xs:List Int} (h2:2≤xs.length) (h8:∀u ∈ xs,0≤u∧u≤255):0≤num (xs.take 2)∧num (xs.take 2)≤65535:=by
 match xs,h2 with
 | x :: y :: zs,_=>
   have h1:=h8 x (by simp)
   have h2:=h8 y (by simp)
   simp [num]
   omega
theorem Gu (b:Nat) (xs:List Int) (e:Int) (w:World) (h:St w b xs e) (h8:∀u ∈ xs,0≤u∧u≤255) :
 Calls Tryz.prog 176 #[.pointer (some ⟨b,0,none⟩),.int .i64 65535] w (Gav w b (rtx xs e).1 (rtx xs e).2.1 (rtx xs e).2.2):=by
 unfold rtx
 by_cases he:e=0
 ·subst he
  rw [if_neg (by simp)]
  by_cases h2:xs.length<2
  ·rw [if_pos h2]
   exact Lz b 65535 xs w h h2
  ·rw [if_neg h2]
   have hb:=num_two (by omega) h8
   have hk:num (xs.take 2)=((num (xs.take 2)).toNat:Int):=by omega
   by_cases hl:2+(num (xs.take 2)).toNat≤xs.length
   ·rw [if_pos hl]
    exact text_ok b _ 65535 xs w h (by omega) h8 hk (by omega) hl (by omega)
   ·rw [if_neg hl]
    exact Lv b _ 65535 xs w h (by omega) h8 hk (by omega) (by omega) (by omega)
 ·rw [if_pos he]
  exact qq9 b 65535 xs e w h (by simpa using he)
theorem cl_lt (k:Nat) (n:Int):cl k n<2 ^ (8*k):=by have:=V9 k;unfold cl;omega
theorem qx1 {k j m:Nat} (hj:j<k):m/2 ^ (8*(k-(j+1)))=256*(m/2 ^ (8*(k-j)))+m/2 ^ (8*(k-1-j))%256:=by
 have e1:k-(j+1)=k-1-j:=by omega
 have e2:8*(k-j)=8*(k-1-j)+8:=by omega
 rw [e1,e2,Nat.pow_add,←Nat.div_div_eq_div_mul]
 omega
theorem qql {k m:Nat} (hm:m<2 ^ (8*k)):∀j,j≤k→num ((be k m).take j)=((m/2 ^ (8*(k-j)):Nat):Int)
 | 0,_=>by
   rw [Nat.sub_zero,Nat.div_eq_of_lt hm]
   rfl
 | j+1,h=>by
   have hl:j<(be k m).length:=by rw [Wy];omega
   rw [qqj hl,qql hm j (by omega),qx1 (by omega)]
   simp only [be,List.getElem_map,List.getElem_range]
   omega
theorem num_be {k m:Nat} (hm:m<2 ^ (8*k)):num (be k m)=m:=by
 have h:=qql hm k (Mr _)
 rw [Mt (by rw [Wy];omega),Nat.sub_self,Nat.mul_zero,Nat.pow_zero,Nat.div_one] at h
 exact h
theorem Wj (n x:Int):num (putb n x)=(cl (wd x) n:Nat):=num_be (cl_lt _ _)
theorem qzs {k:Nat} {q x:Int} (hk:wd q=k) (h0:0≤x) (h1:x≤((2 ^ (8*k)-1:Nat):Int)) (ys:List Int):rdN k (putb x q++ys) 0=(x,ys,0):=by
 have hl:(putb x q).length=k:=by rw [Jw,hk]
 have hn:num (putb x q)=x:=by rw [Wj,hk];unfold cl;omega
 unfold rdN
 rw [if_neg (by simp),if_pos (by simp [hl])]
 rw [List.take_left' hl,List.drop_left' hl,hn]
theorem T9 {x:Int} (h0:0≤x) (h1:x≤255) (ys:List Int):rdN 1 (putb x 1++ys) 0=(x,ys,0):=qzs (k:=1) (q:=1) rfl h0 (by have h:((2 ^ (8*1)-1:Nat):Int)=255:=rfl;rw [h];exact h1) ys
theorem rdN_p2 {x:Int} (h0:0≤x) (h1:x≤65535) (ys:List Int):rdN 2 (putb x 2++ys) 0=(x,ys,0):=qzs (k:=2) (q:=2) rfl h0 (by have h:((2 ^ (8*2)-1:Nat):Int)=65535:=rfl;rw [h];exact h1) ys
theorem rtx_put {cs:List Int} (h1:cs.length≤65535):rtx (putb (cs.length:Int) 2++cs) 0=(cs,[],0):=by
 have hl:(putb (cs.length:Int) 2).length=2:=by rw [Jw];rfl
 have hn:num (putb (cs.length:Int) 2)=(cs.length:Int):=by
  rw [Wj]
  have h2:wd 2=2:=rfl
  rw [h2]
  unfold cl
  have h:(2:Nat) ^ (8*2)-1=65535:=rfl
  rw [h];omega
 unfold rtx
 rw [List.take_left' hl,hn,List.drop_left' hl]
 simp [hl]
end TxtR
namespace ImgT
open Beq ShaM TabR TxtR ImgS
structure Ig where
 (p v h m f s r:Int)
 xs:List Nat
 e:Int
def Ig.no (e:Int):Ig:=⟨0,0,0,0,0,0,0,[],e⟩
def Ig.right (i:Ig):Prop:=(0≤i.p∧i.p≤3)∧(1≤i.v∧i.v≤65535)∧(0≤i.h∧i.h≤65535)∧(1≤i.m∧i.m≤16)∧(1≤i.f∧i.f≤32)∧(0≤i.s∧i.s≤15)∧(0≤i.r∧i.r≤15)∧(1≤(i.xs.length:Int)∧(i.xs.length:Int)≤96)
instance (i:Ig):Decidable i.right:=by unfold Ig.right;infer_instance
def q1 (z:List Nat):=rdN 1 (nl z) 0
def q2 (z:List Nat):=rdN 2 (q1 z).2.1 (q1 z).2.2
def q3 (z:List Nat):=rdN 2 (q2 z).2.1 (q2 z).2.2
def q4 (z:List Nat):=rdN 1 (q3 z).2.1 (q3 z).2.2
def q5 (z:List Nat):=rdN 1 (q4 z).2.1 (q4 z).2.2
def q6 (z:List Nat):=rdN 1 (q5 z).2.1 (q5 z).2.2
def q7 (z:List Nat):=rdN 1 (q6 z).2.1 (q6 z).2.2
def q8 (z:List Nat):=rtx (q7 z).2.1 (q7 z).2.2
def rdI (z:List Nat):Ig:=⟨(q1 z).1,(q2 z).1,(q3 z).1,(q4 z).1,(q5 z).1,(q6 z).1,(q7 z).1,(q8 z).1.map Int.toNat,endN (q8 z).2.1 (q8 z).2.2⟩
def iG (ys:List Nat):Ig:=
 if ys.length<36 then Ig.no 1 else if ys≠closed (ys.take (ys.length-36)) then Ig.no 10 else if (ys.take (ys.length-36)).take 2≠[76,73] then Ig.no 2
 else if (rdI ((ys.take (ys.length-36)).drop 2)).e≠0 then Ig.no (rdI ((ys.take (ys.length-36)).drop 2)).e
 else if (rdI ((ys.take (ys.length-36)).drop 2)).right then rdI ((ys.take (ys.length-36)).drop 2) else Ig.no 3
theorem nl_bytes {z:List Nat} (h:by256 z):∀u ∈ nl z,0≤u∧u≤255:=by
 intro u hu
 simp only [nl,List.mem_map] at hu
 obtain⟨q,hq,rfl⟩:=hu
 have:=h q hq
 omega
theorem qzt {xs:List Int} {e:Int} (h:∀u ∈ xs,0≤u∧u≤255):∀u ∈ (rtx xs e).1,0≤u∧u≤255:=by
 unfold rtx
 repeat' split
 ·exact fun u hu=>by cases hu
 ·exact fun u hu=>by cases hu
 ·exact fun u hu=>h u (List.mem_of_mem_drop (List.mem_of_mem_take hu))
 ·exact fun u hu=>by cases hu
theorem q_bytes {z:List Nat} (h:by256 z):(∀u ∈ (q1 z).2.1,0≤u∧u≤255)∧(∀u ∈ (q2 z).2.1,0≤u∧u≤255)∧(∀u ∈ (q3 z).2.1,0≤u∧u≤255)∧(∀u ∈ (q4 z).2.1,0≤u∧u≤255)∧(∀u ∈ (q5 z).2.1,0≤u∧u≤255)∧(∀u ∈ (q6 z).2.1,0≤u∧u≤255)∧(∀u ∈ (q7 z).2.1,0≤u∧u≤255)∧(∀u ∈ (q8 z).1,0≤u∧u≤255):=by
 have h1:∀u ∈ (q1 z).2.1,0≤u∧u≤255:=Jt (nl_bytes h)
 have h2:∀u ∈ (q2 z).2.1,0≤u∧u≤255:=Jt h1
 have h3:∀u ∈ (q3 z).2.1,0≤u∧u≤255:=Jt h2
 have h4:∀u ∈ (q4 z).2.1,0≤u∧u≤255:=Jt h3
 have h5:∀u ∈ (q5 z).2.1,0≤u∧u≤255:=Jt h4
 have h6:∀u ∈ (q6 z).2.1,0≤u∧u≤255:=Jt h5
 have h7:∀u ∈ (q7 z).2.1,0≤u∧u≤255:=Jt h6
 exact⟨h1,h2,h3,h4,h5,h6,h7,qzt h7⟩
theorem q8_nl {z:List Nat} (h:by256 z):(q8 z).1=nl ((q8 z).1.map Int.toNat):=by
 have h8:=(q_bytes h).2.2.2.2.2.2.2
 unfold nl
 rw [List.map_map]
 conv=>lhs;rw [←List.map_id (q8 z).1]
 refine List.map_congr_left fun u hu=>?_
 have:=h8 u hu
 show u=((u.toNat:Nat):Int)
 omega
theorem q8_lt {z:List Nat} (h:by256 z):by256 ((q8 z).1.map Int.toNat):=by
 intro c hc
 obtain⟨u,hu,rfl⟩:=List.mem_map.1 hc
 have:=(q_bytes h).2.2.2.2.2.2.2 u hu
 omega
theorem Uh {k:Nat} {xs:List Int} {e:Int}:(rdN k xs e).2.1.length≤xs.length:=by
 unfold rdN
 repeat' split
 ·exact Mr _
 ·rw [List.length_drop];omega
 ·exact Mr _
theorem rtx_len {xs:List Int} {e:Int}:(rtx xs e).1.length≤xs.length:=by
 unfold rtx
 repeat' split
 ·exact Nat.zero_le _
 ·exact Nat.zero_le _
 ·rw [Mk_,List.length_drop];omega
 ·exact Nat.zero_le _
theorem q8_len (z:List Nat):(q8 z).1.length≤z.length:=by
 have h:(nl z).length=z.length:=by simp [nl]
 rw [←h]
 exact Ml rtx_len (Ml Uh (Ml Uh (Ml Uh (Ml Uh (Ml Uh (Ml Uh Uh))))))
theorem endN_02 (xs:List Int) {e:Int} (h:e=0∨e=1):endN xs e=0∨endN xs e=1∨endN xs e=2:=by
 unfold endN
 repeat' split
 all_goals omega
theorem rdN_01 {k:Nat} {xs:List Int} {e:Int} (h:e=0∨e=1):(rdN k xs e).2.2=0∨(rdN k xs e).2.2=1:=by
 unfold rdN
 repeat' split
 ·exact h
 ·exact .inl rfl
 ·exact .inr rfl
theorem rtx_01 {xs:List Int} {e:Int} (h:e=0∨e=1):(rtx xs e).2.2=0∨(rtx xs e).2.2=1:=by
 unfold rtx
 repeat' split
 ·exact h
 ·exact .inr rfl
 ·exact .inl rfl
 ·exact .inr rfl
theorem q8_01 (z:List Nat):(q8 z).2.2=0∨(q8 z).2.2=1:=rtx_01 (rdN_01 (rdN_01 (rdN_01 (rdN_01 (rdN_01 (rdN_01 (rdN_01 (.inl rfl))))))))
theorem rdI_e (z:List Nat):(rdI z).e=0∨(rdI z).e=1∨(rdI z).e=2:=endN_02 _ (q8_01 z)
theorem iG_ok {ys:List Nat} (h:(iG ys).e=0):(iG ys).right∧ys=closed (ys.take (ys.length-36))∧iG ys=rdI ((ys.take (ys.length-36)).drop 2):=by
 unfold iG at h ⊢
 by_cases h1:ys.length<36
 ·rw [if_pos h1] at h;exact absurd h (by decide)
 rw [if_neg h1] at h ⊢
 by_cases h2:ys≠closed (ys.take (ys.length-36))
 ·rw [if_pos h2] at h;exact absurd h (by decide)
 rw [if_neg h2] at h ⊢
 by_cases h3:(ys.take (ys.length-36)).take 2≠[76,73]
 ·rw [if_pos h3] at h;exact absurd h (by decide)
 rw [if_neg h3] at h ⊢
 by_cases h4:(rdI ((ys.take (ys.length-36)).drop 2)).e≠0
 ·rw [if_pos h4] at h;exact absurd h h4
 rw [if_neg h4] at h ⊢
 by_cases h5:(rdI ((ys.take (ys.length-36)).drop 2)).right
 ·rw [if_pos h5] at h ⊢
  exact⟨h5,Mc_ fun e=>h2 e,rfl⟩
 ·rw [if_neg h5] at h;exact absurd h (by decide)
end ImgT
namespace StoV
open DskE RecM StgM CmtM StoM ImgT
structure Dc where
 O:Nat→Ow
 I:Nat→Nat→Ig
structure Da where
 k:Nat
 (p n z no:Int)
 d:List Nat
def sl (i:Int):Nat:=i.toNat
section
variable (n:Nat) (T:Int) (chk:Nat→Ig→Int→Int)
def dfr (D:Dc) (p:Int):Int:=if p<0∨(n:Int)≤p then 3 else if (D.O p.toNat).r.a≠(D.O p.toNat).r.c then 18 else 0
def dslot (D:Dc) (p:Nat) (c:Sa):Dc×Int:=
 ({ D with O:=upd D.O p { D.O p with x:=upd (D.O p).x (spr (D.O p)) (dA ((D.O p).x (spr (D.O p))) c).1 } },(dA ((D.O p).x (spr (D.O p))) c).2)
def dbg (D:Dc) (p ses:Int):Int:=if dfr n D p≠0 then dfr n D p else if ((D.O p.toNat).x (spr (D.O p.toNat))).has=false then 16 else if ((D.O p.toNat).x (spr (D.O p.toNat))).g.s≠ses then 17 else 0
def dsave (D:Dc) (p:Nat) (r:Rc):Dc×Int:=({ D with O:=upd D.O p { D.O p with r:=(nx (D.O p).r r).1 } },(nx (D.O p).r r).2)
def sealR (D:Dc) (p:Nat):Rc:={ (D.O p).r with a:=(spr (D.O p):Nat),l:=T,b:=0 }
def bootR (r:Rc):Rc:=if r.l=0 then { r with b:=1+r.a,a:=r.c } else { r with l:=r.l-1 }
def confR (r:Rc):Rc:={ r with c:=r.a,l:=0,b:=0 }
def got (D:Dc) (p:Nat):List Nat×Int:=rY ((D.O p).x (spr (D.O p)))
def sealD (D:Dc) (p:Nat):Dc:=⟨upd D.O p { D.O p with r:=(nx (D.O p).r (sealR T D p)).1 },upd D.I p (upd (D.I p) (spr (D.O p)) (iG (got D p).1))⟩
def dseal (D:Dc) (p:Int) (ses:Int):Dc×Int:=
 if dbg n D p ses≠0 then (D,dbg n D p ses)
 else if (got D p.toNat).2≠0 then (D,(got D p.toNat).2)
 else if (iG (got D p.toNat).1).e≠0 then (D,(iG (got D p.toNat).1).e)
 else if chk p.toNat (iG (got D p.toNat).1) (D.I p.toNat (sl (D.O p.toNat).r.a)).v≠0 then (D,chk p.toNat (iG (got D p.toNat).1) (D.I p.toNat (sl (D.O p.toNat).r.a)).v)
 else if (nx (D.O p.toNat).r (sealR T D p.toNat)).2=0 then (sealD T D p.toNat,0)
 else (D,(nx (D.O p.toNat).r (sealR T D p.toNat)).2)
def dDo (D:Dc) (a:Da):Dc×Int:=
 if a.k=0 then (if dfr n D a.p≠0 then (D,dfr n D a.p) else dslot D a.p.toNat ⟨0,a.n,a.z,0,[]⟩)
 else if a.k=1 then (if dfr n D a.p≠0 then (D,dfr n D a.p) else dslot D a.p.toNat ⟨1,a.n,0,a.no,a.d⟩)
 else if a.k=2 then dseal n T chk D a.p a.n
 else if a.k=3 then (if dbg n D a.p a.n≠0 then (D,dbg n D a.p a.n) else dslot D a.p.toNat ⟨2,0,0,0,[]⟩)
 else if a.k=4 then (if a.p<0∨(n:Int)≤a.p then (D,3) else if (D.O a.p.toNat).r.a=(D.O a.p.toNat).r.c then (D,0) else dsave D a.p.toNat (bootR (D.O a.p.toNat).r))
 else (if a.p<0∨(n:Int)≤a.p then (D,3) else if (D.O a.p.toNat).r.a=(D.O a.p.toNat).r.c then (D,16) else dsave D a.p.toNat (confR (D.O a.p.toNat).r))
structure Hold (D:Dc) (p k:Nat):Prop where
 got:(rY ((D.O p).x k)).2=0
 is:iG (rY ((D.O p).x k)).1=D.I p k
 ok:(D.I p k).e=0
 fit:chk p (D.I p k) 0=0
def DI (D:Dc):Prop:=∀p,p<n→Hold chk D p (sl (D.O p).r.a)∧Hold chk D p (sl (D.O p).r.c)
end
section
variable {n:Nat} {T:Int} {chk:Nat→Ig→Int→Int} {D:Dc} {p k:Nat}
theorem dfr_0 {q:Int} (h:dfr n D q=0):∃p:Nat,q=p∧p<n∧(D.O p).r.a=(D.O p).r.c:=by
 unfold dfr at h
 by_cases h1:q<0∨(n:Int)≤q
 ·rw [if_pos h1] at h;exact absurd h (by decide)
 rw [if_neg h1] at h
 by_cases h2:(D.O q.toNat).r.a≠(D.O q.toNat).r.c
 ·rw [if_pos h2] at h;exact absurd h (by decide)
 exact⟨q.toNat,by omega,by omega,Mc_ h2⟩
theorem spr_ne {o:Ow} (hc:0≤o.r.c∧o.r.c≤1):sl o.r.c≠spr o:=by
 unfold sl spr
 split <;> omega
theorem Hold.far {D':Dc} (h:Hold chk D p k) (hx:(D'.O p).x k=(D.O p).x k) (hi:D'.I p k=D.I p k):Hold chk D' p k:=
 ⟨by rw [hx];exact h.got,by rw [hx,hi];exact h.is,by rw [hi];exact h.ok,by rw [hi];exact h.fit⟩
theorem di_slot (h:DI n chk D) (hw:∀p,p<n→Okw p (D.O p)) (hp:p<n) (ha:(D.O p).r.a=(D.O p).r.c) (c:Sa):DI n chk (dslot D p c).1:=by
 intro q hq
 have hc:=(hw p hp).right.1.2.2.2
 have h1:=h q hq
 by_cases e:q=p
 ·subst e
  have hO:(dslot D q c).1.O q = { D.O q with x:=upd (D.O q).x (spr (D.O q)) (dA ((D.O q).x (spr (D.O q))) c).1 }:=Qw _ _ _
  have hn:=spr_ne hc
  have hx:∀k,k≠spr (D.O q)→((dslot D q c).1.O q).x k=(D.O q).x k:=fun k hk=>by rw [hO];exact upd_ne _ _ hk
  have hr:((dslot D q c).1.O q).r=(D.O q).r:=by rw [hO]
  rw [hr]
  exact⟨h1.1.far (hx _ (by rw [ha];exact hn)) rfl,h1.2.far (hx _ hn) rfl⟩
 ·have hO:(dslot D p c).1.O q=D.O q:=upd_ne _ _ e
  rw [hO]
  exact⟨h1.1.far (by rw [hO]) rfl,h1.2.far (by rw [hO]) rfl⟩
theorem qzu (h:DI n chk D) (hp:p<n) (r:Rc) (ha:(nx (D.O p).r r).2=0→Hold chk D p (sl r.a)) (hc:(nx (D.O p).r r).2=0→Hold chk D p (sl r.c)):DI n chk (dsave D p r).1:=by
 intro q hq
 have h1:=h q hq
 by_cases e:q=p
 ·subst e
  have hO:(dsave D q r).1.O q = { D.O q with r:=(nx (D.O q).r r).1 }:=Qw _ _ _
  have hx:∀k,((dsave D q r).1.O q).x k=(D.O q).x k:=fun k=>by rw [hO]
  have hr:((dsave D q r).1.O q).r=(nx (D.O q).r r).1:=by rw [hO]
  rw [hr]
  rcases Uq (D.O q).r r with⟨e0,e1,_⟩|⟨_,e1⟩
  ·rw [e1]
   exact⟨(ha e0).far (hx _) rfl,(hc e0).far (hx _) rfl⟩
  ·rw [e1]
   exact⟨h1.1.far (hx _) rfl,h1.2.far (hx _) rfl⟩
 ·have hO:(dsave D p r).1.O q=D.O q:=upd_ne _ _ e
  rw [hO]
  exact⟨h1.1.far (by rw [hO]) rfl,h1.2.far (by rw [hO]) rfl⟩
theorem di_boot (h:DI n chk D) (hp:p<n):DI n chk (dsave D p (bootR (D.O p).r)).1:=by
 have h1:=h p hp
 refine qzu h hp _ (fun _=>?_) (fun _=>?_)
 ·unfold bootR
  split
  ·exact h1.2
  ·exact h1.1
 ·unfold bootR
  split
  ·exact h1.2
  ·exact h1.2
theorem di_conf (h:DI n chk D) (hp:p<n):DI n chk (dsave D p (confR (D.O p).r)).1:=
 qzu h hp _ (fun _=>(h p hp).1) (fun _=>(h p hp).1)
theorem dbg_0 {q ses:Int} (h:dbg n D q ses=0):dfr n D q=0:=by
 unfold dbg at h
 by_cases h1:dfr n D q≠0
 ·rw [if_pos h1] at h;exact h
 ·exact Mc_ h1
theorem di_seal (hchk:∀p i v,0≤v→chk p i v=0→chk p i 0=0) (h:DI n chk D) (hw:∀p,p<n→Okw p (D.O p)) (q ses:Int):DI n chk (dseal n T chk D q ses).1:=by
 unfold dseal
 by_cases h1:dbg n D q ses≠0
 ·rw [if_pos h1];exact h
 rw [if_neg h1]
 by_cases h2:(got D q.toNat).2≠0
 ·rw [if_pos h2];exact h
 rw [if_neg h2]
 by_cases h3:(iG (got D q.toNat).1).e≠0
 ·rw [if_pos h3];exact h
 rw [if_neg h3]
 by_cases h4:chk q.toNat (iG (got D q.toNat).1) (D.I q.toNat (sl (D.O q.toNat).r.a)).v≠0
 ·rw [if_pos h4];exact h
 rw [if_neg h4]
 by_cases h5:(nx (D.O q.toNat).r (sealR T D q.toNat)).2=0
 ·rw [if_pos h5]
  obtain⟨p,rfl,hp,ha⟩:=dfr_0 (dbg_0 (Mc_ h1))
  rw [show ((p:Int)).toNat=p from by omega] at h2 h3 h4 h5 ⊢
  have hc:=(hw p hp).right.1.2.2.2
  have hn:=spr_ne hc
  have hv:0≤(D.I p (sl (D.O p).r.a)).v:=by
   have h6:=(h p hp).1
   have h7:=iG_ok (ys:=(rY ((D.O p).x (sl (D.O p).r.a))).1) (by rw [h6.is];exact h6.ok)
   rw [h6.is] at h7
   have:=h7.1.2.1.1
   omega
  intro r hr
  show Hold chk (sealD T D p) r (sl ((sealD T D p).O r).r.a)∧Hold chk (sealD T D p) r (sl ((sealD T D p).O r).r.c)
  by_cases e:r=p
  ·subst e
   have e1:(nx (D.O r).r (sealR T D r)).1=nextR (D.O r).r (sealR T D r):=by
    rcases Uq (D.O r).r (sealR T D r) with⟨_,e1,_⟩|⟨e34,_⟩
    ·exact e1
    ·omega
   have hO:(sealD T D r).O r = { D.O r with r:=(nx (D.O r).r (sealR T D r)).1 }:=Qw _ _ _
   have hx:∀k,((sealD T D r).O r).x k=(D.O r).x k:=fun k=>by rw [hO]
   have hI:(sealD T D r).I r=upd (D.I r) (spr (D.O r)) (iG (got D r).1):=Qw _ _ _
   have hr2:((sealD T D r).O r).r=nextR (D.O r).r (sealR T D r):=by rw [hO];exact e1
   rw [hr2]
   have ea:sl (nextR (D.O r).r (sealR T D r)).a=spr (D.O r):=by show ((spr (D.O r):Nat):Int).toNat=_;omega
   rw [ea]
   refine⟨⟨?_,?_,?_,?_⟩,?_⟩
   ·rw [hx];exact Mc_ h2
   ·rw [hx,hI,Qw];rfl
   ·rw [hI,Qw];exact Mc_ h3
   ·rw [hI,Qw];exact hchk _ _ _ hv (Mc_ h4)
   ·exact (h r hr).2.far (hx _) (by rw [hI];exact upd_ne _ _ hn)
  ·have hO:(sealD T D p).O r=D.O r:=upd_ne _ _ e
   have hI:(sealD T D p).I r=D.I r:=upd_ne _ _ e
   rw [hO]
   have h6:=h r hr
   exact⟨h6.1.far (by rw [hO]) (by rw [hI]),h6.2.far (by rw [hO]) (by rw [hI])⟩
 ·rw [if_neg h5];exact h
theorem di_do (hchk:∀p i v,0≤v→chk p i v=0→chk p i 0=0) (h:DI n chk D) (hw:∀p,p<n→Okw p (D.O p)) (a:Da):DI n chk (dDo n T chk D a).1:=by
 have hs:∀c:Sa,dfr n D a.p=0→DI n chk (dslot D a.p.toNat c).1:=fun c h0=>by
  obtain⟨p,e,hp,ha⟩:=dfr_0 h0
  rw [e,show ((p:Int)).toNat=p from by omega]
  exact di_slot h hw hp ha c
 unfold dDo
 by_cases k0:a.k=0
 ·rw [if_pos k0]
  by_cases h0:dfr n D a.p≠0
  ·rw [if_pos h0];exact h
  ·rw [if_neg h0];exact hs _ (Mc_ h0)
 rw [if_neg k0]
 by_cases k1:a.k=1
 ·rw [if_pos k1]
  by_cases h0:dfr n D a.p≠0
  ·rw [if_pos h0];exact h
  ·rw [if_neg h0];exact hs _ (Mc_ h0)
 rw [if_neg k1]
 by_cases k2:a.k=2
 ·rw [if_pos k2];exact di_seal hchk h hw _ _
 rw [if_neg k2]
 by_cases k3:a.k=3
 ·rw [if_pos k3]
  by_cases h0:dbg n D a.p a.n≠0
  ·rw [if_pos h0];exact h
  ·rw [if_neg h0];exact hs _ (dbg_0 (Mc_ h0))
 rw [if_neg k3]
 by_cases k4:a.k=4
 ·rw [if_pos k4]
  by_cases h0:a.p<0∨(n:Int)≤a.p
  ·rw [if_pos h0];exact h
  rw [if_neg h0]
  split
  ·exact h
  ·exact di_boot h (by omega)
 ·rw [if_neg k4]
  by_cases h0:a.p<0∨(n:Int)≤a.p
  ·rw [if_pos h0];exact h
  rw [if_neg h0]
  split
  ·exact h
  ·exact di_conf h (by omega)
end
end StoV
namespace StoE
open Kit Byt Mem RecM ImgT StoV StoA
open RecA (rval rcells rok n64 sok)
open StgA (hd)
inductive Rl
 | out
 | data
 | head
 | list
 | slots (p:Nat)
 | imgs (p:Nat)
 | row (p k:Nat)
structure Mm where
 lb:Nat
 lc:Nat
 LC:List Value
 sb:Nat→Nat
 sc:Nat→Nat
 SC:Nat→List Value
 ib:Nat→Nat
 ic:Nat→Nat
 IC:Nat→List Value
def ocs (r:Rc) (sb sc ib ic:Nat):List Value:=[.int .i64 r.p,.int .i64 r.q,.int .i64 r.a,.int .i64 r.c,.int .i64 r.l,.int .i64 r.b,.slice (some ⟨sb,0,none⟩) 2 sc,.slice (some ⟨ib,0,none⟩) 2 ic]
def igc (i:Ig) (A:Option Addr) (n c:Nat):List Value:=[.int .i64 i.p,.int .i64 i.v,.int .i64 i.h,.int .i64 i.m,.int .i64 i.f,.int .i64 i.s,.int .i64 i.r,.slice A n c]
def sH (ρ:Nat→Rl) (p k:Nat) (i:Nat):Prop:=ρ i=.slots p∨ρ i=.row p k
def isD (ρ:Nat→Rl) (i:Nat):Prop:=ρ i=.data
def isO (ρ:Nat→Rl) (i:Nat):Prop:=ρ i≠.out
structure RSt (w:World) (ρ:Nat→Rl) (b:Nat) (tb:List Value) (n:Nat) (D:Dc) (M:Mm):Prop where
 head:Blk w b 100 (tb++[.slice (some ⟨M.lb,0,none⟩) n M.lc])
 tb5:tb.length=5
 list:Blk w M.lb 109 M.LC
 n4:n≤4∧n≤M.lc∧M.lc≤9223372036854775807
 own:∀p,p<n→p*8+8≤M.LC.length∧∀i v,(ocs (D.O p).r (M.sb p) (M.sc p) (M.ib p) (M.ic p))[i]?=some v→M.LC[p*8+i]?=some v
 caps:∀p,p<n→2≤M.sc p∧M.sc p≤9223372036854775807∧2≤M.ic p∧M.ic p≤9223372036854775807
 slot:∀p,p<n→∀k,k≤1→ROl w (sH ρ p k) (isD ρ) (M.sb p) (k*5) (M.SC p) ((D.O p).x k)
 imgs:∀p,p<n→Blk w (M.ib p) 33 (M.IC p)∧16≤(M.IC p).length
 img:∀p,p<n→∀k,k≤1→∃A m c,(∀i v,(igc (D.I p k) A m c)[i]?=some v→(M.IC p)[k*8+i]?=some v)∧Rd w A m c (u8n (D.I p k).xs)∧(0<m→∀q o,A=some ⟨q,o,none⟩→ρ q=.data)
 rb:ρ b=.head
 rl:ρ M.lb=.list
 rs:∀p,p<n→ρ (M.sb p)=.slots p
 ri:∀p,p<n→ρ (M.ib p)=.imgs p
 us:∀i p,ρ i=.slots p→i=M.sb p
 lt:∀i,isO ρ i→i<w.heap.size
end StoE
namespace StoF
open Byt StgM StoV StoA StoE
open StgA (hd)
theorem Nq (x:Rf) (A:Option Addr) (n c:Nat):(hd x A n c).length=5:=rfl
theorem spl_out {α:Type} {C h:List α} {o j:Nat} (hf:o+h.length≤C.length) (hj:j<o∨o+h.length≤j):(splice C o h)[j]?=C[j]?:=by
 unfold splice
 rcases hj with hj|hj
 ·rw [List.getElem?_append_left (by rw [Mk_];omega),List.getElem?_take,if_pos hj]
 ·rw [List.getElem?_append_right (by rw [Mk_];omega),Mk_,List.getElem?_append_right (by omega),List.getElem?_drop]
  congr 1
  omega
theorem qx2 {α:Type} {C h:List α} {o:Nat} (hf:o+h.length≤C.length) (hs:∀i v,h[i]?=some v→C[o+i]?=some v):splice C o h=C:=by
 apply List.ext_getElem?
 intro j
 by_cases hj:j<o∨o+h.length≤j
 ·exact spl_out hf hj
 ·have hi:j-o<h.length:=by omega
  have h1:=spl_get (i:=j-o) hf (Mq hi)
  have h2:=hs (j-o) _ (Mq hi)
  rw [show o+(j-o)=j from by omega] at h1 h2
  rw [h1,h2]
section
variable {w w':World} {H N H2 N2 G:Nat→Prop} {b o n c:Nat} {C:List Value} {x:Rf} {E:List Sl} {A:Option Addr}
theorem RO.mono (h:RO w H N b o C x E A n c) (hH:∀i,H i→H2 i) (hN:∀i,N i→N2 i) (l1:∀i,H2 i→i<w.heap.size) (l2:∀i,N2 i→i<w.heap.size) (d:∀i,H2 i→¬N2 i):RO w H2 N2 b o C x E A n c:=
 ⟨h.head,h.fit,h.own,h.bl,fun e he=>⟨(h.ent e he).1,fun q o hA=>hN q ((h.ent e he).2 q o hA)⟩,hH _ h.ha,fun k hk=>⟨hH k (h.ho k hk).1,(h.ho k hk).2⟩,l1,l2,d⟩
theorem ROl.mono (h:ROl w H N b o C x) (hH:∀i,H i→H2 i) (hN:∀i,N i→N2 i) (l1:∀i,H2 i→i<w.heap.size) (l2:∀i,N2 i→i<w.heap.size) (d:∀i,H2 i→¬N2 i):ROl w H2 N2 b o C x:=by
 obtain⟨E,A,n,c,h⟩:=h
 exact⟨E,A,n,c,RO.mono h hH hN l1 l2 d⟩
end
end StoF
namespace RecC
open Byt
def Gives (w:World) (xs:List Nat) (e:Ending) (w':World):Prop:=∃B m d,e=.returned (.slice B m d)∧w'.ownsRow w.heap.size 5 1 (.slice B m d) m (u8n xs)∧Bw w w'
theorem own_mono {w:World} {b b':Nat} {e:TypeId} {v:Value} {n:Nat} {xs:List Value} (h:w.ownsRow b' e 1 v n xs) (hb:b≤b'):w.ownsRow b e 1 v n xs:=by
 refine⟨h.1,?_⟩
 rcases h.2 with h1|⟨g,cap,cur,hv,hg,hrest⟩
 ·exact .inl h1
 ·exact .inr ⟨g,cap,cur,hv,by omega,hrest⟩
end RecC
namespace QTail
section
variable {P:Program} {ops:Array Oper} {md:Region.Mode} {C:World→Prop}
def sinks (md:Region.Mode) (ops:Array Oper) (n:Nat) (l0:Array Bool):Bool:=
 (List.range n).all fun i=>l0.getD i true || (List.range (n+1)).any fun j=>decide (i<j)&&Region.waitsFor md ops j i
theorem waits {n:Nat} {l0 listed:Array Bool} (hs:sinks md ops n l0=true) (hc:Region.chainB md ops n=true) (h0:∀i,l0.getD i true=true→listed.getD i true=true) (inv:HeadInv md ops n listed) :
 ∀d i:Nat,n-i≤d→i<n→listed.getD i true=false→∀t,n≤t→t ∉ Region.ready md ops listed:=by
 intro d
 induction d with
 | zero=>intro i hd hi;omega
 | succ d ih=>
   intro i hd hi hun t ht hr
   obtain⟨_,ot,hot,hall⟩:=mem_ready.1 hr
   have hno:∀k,Region.waitsFor md ops t k=true→listed.getD k true=false→False:=fun k hk hu=>by
    obtain⟨o',ho',e,he,hb,hon⟩:=Region.waitsFor_spec hk
    obtain rfl:o'=ot:=Option.some.inj (ho'.symm.trans hot)
    have h2:=hall e he hb
    rw [hon,getD_both hu] at h2
    cases h2
   rcases Nat.lt_or_ge n t with htn|htn
   ·have htl:t<ops.size:=(Array.getElem?_eq_some_iff.1 hot).1
    have h1:=List.all_eq_true.1 hc t (List.mem_range.2 htl)
    simp only [Bool.or_eq_true,decide_eq_true_eq] at h1
    rcases h1 with h1|h1
    ·omega
    ·exact hno _ h1 (inv.tail (t-1) (by omega) (by omega))
   ·obtain rfl:t=n:=by omega
    have h1:=List.all_eq_true.1 hs i (List.mem_range.2 hi)
    have hi0:l0.getD i true=false:=by
     cases h:l0.getD i true with
     | false=>rfl
     | true=>rw [h0 i h] at hun;cases hun
    rw [hi0,Bool.false_or] at h1
    obtain⟨j,hj,hj2⟩:=List.any_eq_true.1 h1
    simp only [Bool.and_eq_true,decide_eq_true_eq] at hj2
    have hjn:j≤t:=by have:=List.mem_range.1 hj;omega
    by_cases hjt:j=t
    ·subst hjt;exact hno _ hj2.2 hun
    ·cases hl:listed.getD j true with
     | false=>exact ih j (by omega) (by omega) hl t (Mr _) hr
     | true=>
       obtain⟨oj,hoj,e,he,hb,hon⟩:=Region.waitsFor_spec hj2.2
       have hjs:j<listed.size:=by rw [inv.size];exact (Array.getElem?_eq_some_iff.1 hoj).1
       have hl':listed.getD j false=true:=by simpa [hjs] using hl
       have h2:=inv.closed j oj hoj hl' e he hb
       rw [hon,getD_both hun] at h2
       cases h2
def anyQ (P:Program) (md:Region.Mode) (ops:Array Oper) (C:World→Prop) (n:Nat) (L:Array Bool→Act→Prop):Nat→Array Bool→Act→Prop
 | 0,listed,a=>L listed a
 | f+1,listed,a=>Region.ready md ops listed≠[]∧∀i ∈ Region.ready md ops listed,i<n∧qOp P ops C i (anyQ P md ops C n L f (listed.setIfInBounds i true)) a
theorem any_of {n g:Nat} {L:Array Bool→Act→Prop} {Q':Exit→Act→World→Prop} (hL:∀listed a w,C w→L listed a→wpAny P md ops Q' g listed a w) :
 ∀(f:Nat) (listed:Array Bool) (a:Act) (w:World),C w→anyQ P md ops C n L f listed a→wpAny P md ops Q' (f+g) listed a w
 | 0,listed,a,w,hC,h=>by rw [Nat.zero_add];exact hL _ _ _ hC h
 | f+1,listed,a,w,hC,h=>by
   rw [show f+1+g=(f+g)+1 by omega]
   exact⟨fun h0=>absurd h0 h.1,fun i hi=>wpOp_of_qOp hC (fun a' w' hC' h'=>any_of hL f _ a' w' hC' h') (h.2 i hi).2⟩
theorem qja {n i:Nat} {oi:Oper} {v:Value} {L:Array Bool→Act→Prop} {l0:Array Bool} (hi:ops[i]?=some oi) (hsel:∀(j:Nat) (o:Oper) cs b,ops[j]?=some o→o.op≠.select cs b)
 (hs:sinks md ops n l0=true) (hc:Region.chainB md ops n=true) (hin:i<n) (hdone:∀listed a,L listed a→∀j ∈ Region.ready md ops listed,n≤j) :
 ∀(f:Nat) (listed:Array Bool) (a:Act),HeadInv md ops n listed→(∀i,l0.getD i true=true→listed.getD i true=true)→
  (∀j oj,ops[j]?=some oj→j≠i→listed.getD j true=false→(∀e ∈ oj.after,Region.binds md e=true→e.on≠i)→oi.apart ops oj=true)→
  i ∈ Region.ready md ops listed→YieldsIn P ops C oi v a→
  anyQ P md ops C n L f (listed.setIfInBounds i true) (a.put oi.dst v)→anyQ P md ops C n L (f+1) listed a:=by
 intro f
 induction f with
 | zero=>
   intro listed a inv h0 _ hr hy H
   refine⟨fun h=>(by rw [h] at hr;cases hr),fun j hj=>?_⟩
   have hjn:j<n:=Nat.lt_of_not_ge fun h=>waits hs hc h0 inv _ i (Mr _) hin (mem_ready.1 hr).1 j h hj
   refine⟨hjn,?_⟩
   by_cases hji:j=i
   ·subst hji;exact hy.qOp hi H
   ·have:=hdone _ _ H j (ready_mono hj hji)
    omega
 | succ f ih=>
   intro listed a inv h0 hfree hr hy H
   refine⟨fun h=>(by rw [h] at hr;cases hr),fun j hj=>?_⟩
   have hjn:j<n:=Nat.lt_of_not_ge fun h=>waits hs hc h0 inv _ i (Mr _) hin (mem_ready.1 hr).1 j h hj
   refine⟨hjn,?_⟩
   by_cases hji:j=i
   ·subst hji;exact hy.qOp hi H
   ·obtain⟨hjun,oj,hoj,hall⟩:=mem_ready.1 hj
    have hnot:∀e ∈ oj.after,Region.binds md e=true→e.on≠i:=fun e he hb heq=>by
     have h1:=hall e he hb
     rw [heq,getD_both (mem_ready.1 hr).1] at h1
     cases h1
    have hgo:=qOp_put hoj (hfree j oj hoj hji hjun hnot) (fun cs b=>hsel i oi cs b hi) (fun cs b=>hsel j oj cs b hoj) hy (H.2 j (ready_mono hj hji)).2
    refine qOp_mono (fun a' h3=>ih (listed.setIfInBounds j true) a' (inv.set hj hjn) (fun k hk=>?_) (fun k ok hk hki hun hno=>hfree k ok hk hki ?_ hno) (ready_mono hr (Ne.symm hji)) h3.1 ?_) hgo
    ·by_cases hjk:j=k
     ·subst hjk
      by_cases hb:j<listed.size
      ·simp [hb]
      ·simp [hb]
     ·rw [getD_set_ne true hjk];exact h0 k hk
    ·by_cases hjk:j=k
     ·subst hjk;exact hjun
     ·rw [getD_set_ne true hjk] at hun;exact hun
    ·rw [Array.setIfInBounds_comm _ _ hji]
     exact h3.2
def lexI (md:Region.Mode) (ops:Array Oper) (n g:Nat):List Nat→Array Bool→Bool
 | [],listed=>Region.seqB md ops g n listed
 | i :: is,listed=>decide (i<n)&&(Region.ready md ops listed).contains i&&Region.free md ops listed i&&lexI md ops n g is (listed.setIfInBounds i true)
def wpQI (P:Program) (ops:Array Oper) (C:World→Prop) (L:Act→Prop):List Nat→Act→Prop
 | [],a=>L a
 | i :: is,a=>qOp P ops C i (wpQI P ops C L is) a
theorem U8 {L:Act→Prop} {a:Act} (h:L a):wpQI P ops C L [] a:=h
theorem Qt {L:Act→Prop} {a:Act} {i:Nat} {is:List Nat} {o:Oper} (hi:ops[i]?=some o)
 (h:∀K:Act→Prop,(∀a,wpQI P ops C L is a→K a)→if Region.wanted o (yielded ops a.tmps) then o.quiet P a C K else K (a.put o.dst undef)):wpQI P ops C L (i :: is) a:=by
 show qOp P ops C i _ a
 unfold qOp
 simp only [hi]
 exact h _ fun _ h=>h
theorem anyQ_lex {n g:Nat} {Lq:Act→Prop} {l0:Array Bool} (hsel:Region.noSelect ops=true) (hs:sinks md ops n l0=true) (hc:Region.chainB md ops n=true) :
 ∀(is:List Nat) (listed:Array Bool) (a:Act),HeadInv md ops n listed→(∀i,l0.getD i true=true→listed.getD i true=true)→
 lexI md ops n g is listed=true→wpQI P ops C Lq is a→anyQ P md ops C n (fun listed' a'=>Region.seqB md ops g n listed'=true∧Lq a') is.length listed a
 | [],_,_,_,_,hB,h=>⟨hB,h⟩
 | i :: is,listed,a,inv,h0,hB,h=>by
   simp only [lexI,Bool.and_eq_true,decide_eq_true_eq] at hB
   obtain⟨⟨⟨hin,hr⟩,hf⟩,hB'⟩:=hB
   have hr':i ∈ Region.ready md ops listed:=by simpa using hr
   obtain⟨_,o,ho,_⟩:=mem_ready.1 hr'
   obtain⟨v,hy,hK⟩:=yieldsIn_of_qOp ho (show qOp P ops C i (wpQI P ops C Lq is) a from h)
   refine qja ho (Region.noSelect_spec hsel) hs hc hin (fun listed' a' hL=>seqB_ready hL.1) is.length listed a inv h0 (Region.free_spec ho hf) hr' hy
    (anyQ_lex hsel hs hc is _ _ (inv.set hr' hin) (fun k hk=>?_) hB' hK)
   by_cases hik:i=k
   ·subst hik
    by_cases hb:i<listed.size
    ·simp [hb]
    ·simp [hb]
   ·rw [getD_set_ne true hik];exact h0 k hk
def shapeB (md:Region.Mode) (ops:Array Oper) (n:Nat) (is:List Nat) (l0:Array Bool):Bool:=
 Region.noSelect ops&&decide (n<ops.size)&&sinks md ops n l0&&Region.chainB md ops n&&decide (l0.size=ops.size) &&
 ((List.range ops.size).all fun j=>!l0.getD j false || match ops[j]? with|some oj=>oj.after.all fun e=>!Region.binds md e || l0.getD e.on false|none=>true) &&
 ((List.range ops.size).all fun t=>decide (t<n) || !l0.getD t true)&&lexI md ops n (ops.size-n) is l0
theorem Z9 {Q:Exit→Act→World→Prop} {fuel:Nat} {l0:Array Bool} {a:Act} {w:World} (n:Nat) (is:List Nat) (hB:shapeB md ops n is l0=true) (hf:fuel=is.length+(ops.size-n)) (hC:C w)
 (h:wpQI P ops C (fun a'=>∀w',C w'→wpList P ops Q (ops.toList.drop n) a' w') is a):wpAny P md ops Q fuel l0 a w:=by
 simp only [shapeB,Bool.and_eq_true,decide_eq_true_eq] at hB
 obtain⟨⟨⟨⟨⟨⟨⟨hsel,hn⟩,hs⟩,hc⟩,hz⟩,hcl⟩,htl⟩,hlex⟩:=hB
 have inv:HeadInv md ops n l0:=by
  refine⟨hz,fun j oj hoj hl e he hb=>?_,fun t ht ht'=>?_⟩
  ·have h1:=List.all_eq_true.1 hcl j (List.mem_range.2 (Array.getElem?_eq_some_iff.1 hoj).1)
   rw [hl,hoj] at h1
   simp only [Bool.not_true,Bool.false_or] at h1
   have h2:=Array.all_eq_true'.1 h1 e he
   rw [hb] at h2
   simpa using h2
  ·have h1:=List.all_eq_true.1 htl t (List.mem_range.2 ht')
   have h2 : ¬t<n:=by omega
   simpa [h2] using h1
 subst hf
 have hg:(ops.toList.drop n).length=ops.size-n:=by simp
 refine any_of (g:=ops.size-n) (fun listed' a' w' hC' hL=>?_) _ _ _ _ hC (anyQ_lex (g:=ops.size-n) hsel hs hc is l0 a inv (fun _ h=>h) hlex h)
 have:=wpAny_of_seq (md:=md) (Q':=Q) (ops.toList.drop n) n listed' a' w' (fun j=>by simp [List.getElem?_drop]) (by rw [hg];exact hL.1) (hL.2 w' hC')
 rwa [hg] at this
end
end QTail
namespace RecF
open RecM RecA
open TabR (rdN num)
theorem nm_bd {xs:List Nat} (hb:byt xs) (i k:Nat):0≤nm xs i k∧nm xs i k<256 ^ k:=by
 have key:∀(l:List Nat) (a:Int) (m:Nat),(∀c ∈ l,c<256)→0≤a→a<256 ^ m→0≤(nl l).foldl (fun a b=>256*a+b) a∧(nl l).foldl (fun a b=>256*a+b) a<256 ^ (m+l.length):=by
  intro l
  induction l with
  | nil=>intro a m _ h0 h1;exact⟨h0,h1⟩
  | cons x l ih=>
    intro a m hl h0 h1
    have hx:=hl x (by simp)
    have h2:256*a+(x:Int)<256 ^ (m+1):=by rw [Int.pow_succ];omega
    have h3:=ih (256*a+x) (m+1) (fun c hc=>hl c (by simp [hc])) (by omega) h2
    have e:m+(x :: l).length=m+1+l.length:=by simp;omega
    rw [e]
    exact h3
 have h1:=key ((xs.drop i).take k) 0 0 (byt_take (byt_drop hb i) k) (by omega) (by simp)
 refine⟨h1.1,Int.lt_of_lt_of_le h1.2 ?_⟩
 have h2:(256:Nat) ^ (0+((xs.drop i).take k).length)≤256 ^ k:=Nat.pow_le_pow_right (by omega) (by simp;omega)
 have h3:((256 ^ k:Nat):Int)=(256:Int) ^ k:=by simp
 have h4:((256 ^ (0+((xs.drop i).take k).length):Nat):Int)=(256:Int) ^ (0+((xs.drop i).take k).length):=by simp
 omega
theorem qzv {xs:List Nat} (hb:byt xs) (i k:Nat) (hk:k≤4):n64 (nm xs i k):=by
 have h:=nm_bd hb i k
 have h2:(256:Nat) ^ k≤256 ^ 4:=Nat.pow_le_pow_right (by omega) hk
 have h3:((256 ^ k:Nat):Int)=(256:Int) ^ k:=by simp
 unfold n64
 omega
end RecF
namespace StoU
open Kit Byt Mem StoV StoA StoE StoF
open StgA (hd)
open RecA (rval rcells)
section
variable {D:Dc} {M:Mm} {k p:Nat}
def lst (D:Dc) (M:Mm):Nat→List Value
 | 0=>[]
 | k+1=>lst D M k++ocs (D.O k).r (M.sb k) (M.sc k) (M.ib k) (M.ic k)
theorem Gy (D:Dc) (M:Mm) (k:Nat):(lst D M k).length=k*8:=by
 induction k with
 | zero=>rfl
 | succ k ih=>show (lst D M k++_).length=_;rw [Ma,ih];show k*8+8=_;omega
theorem lst_get (hp:p<k) {i:Nat} {v:Value} (hi:(ocs (D.O p).r (M.sb p) (M.sc p) (M.ib p) (M.ic p))[i]?=some v):(lst D M k)[p*8+i]?=some v:=by
 have hi8:i<8:=(List.getElem?_eq_some_iff.1 hi).1
 induction k with
 | zero=>omega
 | succ k ih=>
   show (lst D M k++_)[p*8+i]?=some v
   by_cases e:p=k
   ·subst e
    rw [List.getElem?_append_right (by rw [Gy];omega),Gy,show p*8+i-p*8=i from by omega]
    exact hi
   ·rw [List.getElem?_append_left (by rw [Gy];omega)]
    exact ih (by omega)
theorem qx3 {D':Dc} {M':Mm} (h:∀q,q<k→ocs (D'.O q).r (M'.sb q) (M'.sc q) (M'.ib q) (M'.ic q)=ocs (D.O q).r (M.sb q) (M.sc q) (M.ib q) (M.ic q)):lst D' M' k=lst D M k:=by
 induction k with
 | zero=>rfl
 | succ k ih=>show lst D' M' k++_=lst D M k++_;rw [ih fun q hq=>h q (by omega),h k (by omega)]
end
structure RP (w0 w:World) (ρ0 ρ:Nat→Rl) (b:Nat) (tb:List Value) (LA:Option Addr) (lc k:Nat) (D:Dc) (M:Mm):Prop where
 head:Blk w b 100 (tb++[.slice LA k lc])
 row:w.ownsRow w0.heap.size 109 8 (.slice LA k lc) k (lst D M k)
 caps:∀p,p<k→2≤M.sc p∧M.sc p≤9223372036854775807∧2≤M.ic p∧M.ic p≤9223372036854775807
 slot:∀p,p<k→∀j,j≤1→ROl w (sH ρ p j) (isD ρ) (M.sb p) (j*5) (M.SC p) ((D.O p).x j)
 imgs:∀p,p<k→Blk w (M.ib p) 33 (M.IC p)∧16≤(M.IC p).length
 img:∀p,p<k→∀j,j≤1→∃A m c,(∀i v,(igc (D.I p j) A m c)[i]?=some v→(M.IC p)[j*8+i]?=some v)∧Rd w A m c (u8n (D.I p j).xs)∧(0<m→∀q o,A=some ⟨q,o,none⟩→ρ q=.data)
 rb:ρ b=.head
 rl:∀i,(Value.slice LA k lc).ownBlock=some i→ρ i=.list
 rs:∀p,p<k→ρ (M.sb p)=.slots p
 ri:∀p,p<k→ρ (M.ib p)=.imgs p
 us:∀i p,ρ i=.slots p→i=M.sb p
 un:∀i r,ρ i=r→(r=.out∨r=.data∨r=.head∨r=.list∨(∃p,p<k∧(r=.slots p∨r=.imgs p∨r=.row p 0∨r=.row p 1)))
 lt:∀i,isO ρ i→i<w.heap.size
 new_:∀i,isO ρ i→isD ρ0 i∨w0.heap.size≤i
 dat:∀i,isD ρ0 i→isD ρ i
 bel:Bw w0 w
section
variable {w0 w:World} {ρ0 ρ:Nat→Rl} {b lc n:Nat} {tb:List Value} {LA:Option Addr} {D:Dc} {M:Mm}
theorem RP.done (h:RP w0 w ρ0 ρ b tb LA lc n D M) (h5:tb.length=5) (h1:1≤n) (h4:n≤4):∃M',RSt w ρ b tb n D M':=by
 rcases h.row.2 with⟨hv,h0⟩|⟨g,cap,cur,hv,_,hh,hnc,hcm,hcs,hx⟩
 ·simp only [Value.slice.injEq] at hv
  omega
 ·simp only [Value.slice.injEq] at hv
  obtain⟨rfl,_,rfl⟩:=hv
  refine⟨{ M with lb:=g,lc:=lc,LC:=cur.toList },h.head,h5,?_,⟨h4,hnc,by unfold maxLen at hcm;show lc≤_;omega⟩,fun p hp=>⟨?_,fun i v hi=>?_⟩,h.caps,h.slot,h.imgs,h.img,h.rb,h.rl g rfl,h.rs,h.ri,h.us,h.lt⟩
  ·show w.heap[g]?=_
   rw [hh]
  ·show p*8+8≤cur.toList.length
   rw [Array.length_toList,hcs]
   have:=Nat.mul_le_mul_right 8 hnc
   omega
  ·have hl:=lst_get (D:=D) (M:=M) hp hi
   show cur.toList[p*8+i]?=some v
   have hlt:=(List.getElem?_eq_some_iff.1 hl).1
   rw [Gy] at hlt
   rw [←hx,List.getElem?_take,if_pos hlt] at hl
   exact hl
end
end StoU
namespace StoX
open Kit Byt Mem RecM StgM ImgT StoM StoV StoA StoE StoF StoU
open StgA (hd)
open RecA (rval rcells)
def own? (A:Option Addr) (n c:Nat):Option Nat:=(Value.slice A n c).ownBlock
structure Ly where
 SA:Option Addr
 sc:Nat
 IA:Option Addr
 ic:Nat
 E:Nat→List Sl
 A:Nat→Option Addr
 m:Nat→Nat
 c:Nat→Nat
 CA:Nat→Option Addr
 cm:Nat→Nat
 cc:Nat→Nat
def hds (o:Ow) (y:Ly):Nat→List Value
 | 0=>[]
 | k+1=>hds o y k++hd (o.x k) (y.A k) (y.m k) (y.c k)
def igs (I:Nat→Ig) (y:Ly):Nat→List Value
 | 0=>[]
 | k+1=>igs I y k++igc (I k) (y.CA k) (y.cm k) (y.cc k)
structure PS (w:World) (B ks ki:Nat) (o:Ow) (I:Nat→Ig) (ρ:Nat→Rl) (y:Ly):Prop where
 s:w.ownsRow B 106 5 (.slice y.SA ks y.sc) ks (hds o y ks)
 im:w.ownsRow B 33 8 (.slice y.IA ki y.ic) ki (igs I y ki)
 r:∀j,j<ks→w.ownsRow B 31 1 (.slice (y.A j) (y.m j) (y.c j)) (y.m j) ((y.E j).map Sl.val)
 sl:∀j,j<ks→(o.x j).bl=(y.E j).map (·.xs)∧∀e ∈ y.E j,Rd w e.A e.n e.c (u8n e.xs)∧∀q o',e.A=some ⟨q,o',none⟩→isD ρ q
 ig:∀j,j<ki→Rd w (y.CA j) (y.cm j) (y.cc j) (u8n (I j).xs)∧(0<y.cm j→∀q o',y.CA j=some ⟨q,o',none⟩→isD ρ q)
 a1:∀i,own? y.SA ks y.sc=some i→own? y.IA ki y.ic≠some i
 a2:∀j,j<ks→∀i,own? (y.A j) (y.m j) (y.c j)=some i→own? y.SA ks y.sc≠some i∧own? y.IA ki y.ic≠some i∧∀j',j'<ks→j'≠j→own? (y.A j') (y.m j') (y.c j')≠some i
theorem Zy {w:World} {B n size:Nat} {e:TypeId} {A:Option Addr} {c:Nat} {xs:List Value} (h:w.ownsRow B e size (.slice A n c) n xs) (hn:0<n) :
 ∃(g:Nat) (C:List Value),A=some ⟨g,0,none⟩∧B≤g∧g<w.heap.size∧Blk w g e C∧C.length=c*size∧n≤c∧c≤9223372036854775807∧(∀(i:Nat) (v:Value),xs[i]?=some v→C[i]?=some v):=by
 rcases h.2 with⟨hv,h0⟩|⟨g,cap,cur,hv,hb,hh,hnc,hcm,hcs,hx⟩
 ·simp only [Value.slice.injEq] at hv
  omega
 ·simp only [Value.slice.injEq] at hv
  obtain⟨rfl,_,rfl⟩:=hv
  refine⟨g,cur.toList,rfl,hb,lt_of_block hh,?_,by rw [Array.length_toList,hcs],hnc,by unfold maxLen at hcm;omega,fun i v hi=>?_⟩
  ·show w.heap[g]?=_
   rw [hh]
  ·rw [←hx,List.getElem?_take] at hi
   split at hi
   ·exact hi
   ·cases hi
theorem own_ge {w:World} {B n size:Nat} {e:TypeId} {A:Option Addr} {c:Nat} {xs:List Value} (h:w.ownsRow B e size (.slice A n c) n xs):∀i,own? A n c=some i→B≤i∧i<w.heap.size:=fun i hi=>h.lt i hi
section
variable {w0 w w2:World} {ρ0 ρ:Nat→Rl} {b lc lc' k B:Nat} {tb:List Value} {LA LA':Option Addr} {D:Dc} {M:Mm} {y:Ly} {G:Nat→Prop}
theorem hds_get {o:Ow} {j i:Nat} {v:Value} (hj:j<2) (hi:(hd (o.x j) (y.A j) (y.m j) (y.c j))[i]?=some v):(hds o y 2)[j*5+i]?=some v:=by
 have hi5:=(List.getElem?_eq_some_iff.1 hi).1
 rw [Nq] at hi5
 show (([]++hd (o.x 0) (y.A 0) (y.m 0) (y.c 0))++hd (o.x 1) (y.A 1) (y.m 1) (y.c 1))[j*5+i]?=some v
 rw [List.nil_append]
 rcases (show j=0∨j=1 by omega) with rfl|rfl
 ·rw [List.getElem?_append_left (by rw [Nq];omega),show 0*5+i=i from by omega]
  exact hi
 ·rw [List.getElem?_append_right (by rw [Nq];omega),Nq,show 1*5+i-5=i from by omega]
  exact hi
theorem igs_get {I:Nat→Ig} {j i:Nat} {v:Value} (hj:j<2) (hi:(igc (I j) (y.CA j) (y.cm j) (y.cc j))[i]?=some v):(igs I y 2)[j*8+i]?=some v:=by
 have hi5:i<8:=(List.getElem?_eq_some_iff.1 hi).1
 show (([]++igc (I 0) (y.CA 0) (y.cm 0) (y.cc 0))++igc (I 1) (y.CA 1) (y.cm 1) (y.cc 1))[j*8+i]?=some v
 rw [List.nil_append]
 rcases (show j=0∨j=1 by omega) with rfl|rfl
 ·rw [List.getElem?_append_left (by show 0*8+i<8;omega),show 0*8+i=i from by omega]
  exact hi
 ·rw [List.getElem?_append_right (by show 8≤1*8+i;omega),show 1*8+i-(igc (I 0) (y.CA 0) (y.cm 0) (y.cc 0)).length=i from by show 1*8+i-8=i;omega]
  exact hi
def rel (ρ:Nat→Rl) (k gs gi:Nat) (y:Ly) (LA':Option Addr) (lc':Nat) (i:Nat):Rl:=
 if i=gs then .slots k else if i=gi then .imgs k else if own? (y.A 0) (y.m 0) (y.c 0)=some i then .row k 0 else if own? (y.A 1) (y.m 1) (y.c 1)=some i then .row k 1 else if own? LA' (k+1) lc'=some i then .list else ρ i
theorem RP.next (h:RP w0 w ρ0 ρ b tb LA lc k D M) (K:Keep G w w2) (hG:∀i,isO ρ i→ρ i≠.head→ρ i≠.list→¬G i) (hb:Bw w0 w2) (hw0:w0.heap.size≤B) (hP:PS w2 B 2 2 (D.O k) (D.I k) ρ y) (hF:∀i,isO ρ i→own? y.SA 2 y.sc≠some i∧own? y.IA 2 y.ic≠some i∧own? (y.A 0) (y.m 0) (y.c 0)≠some i∧own? (y.A 1) (y.m 1) (y.c 1)≠some i)
 {gs gi:Nat} (hgs:y.SA=some ⟨gs,0,none⟩) (hgi:y.IA=some ⟨gi,0,none⟩)
 (hrow:w2.ownsRow w0.heap.size 109 8 (.slice LA' (k+1) lc') (k+1) (lst D M k++ocs (D.O k).r gs y.sc gi y.ic)) (hhead:Blk w2 b 100 (tb++[.slice LA' (k+1) lc']))
 (hL:∀i,own? LA' (k+1) lc'=some i→ρ i=.list∨(ρ i=.out∧i≠gs∧i≠gi∧own? (y.A 0) (y.m 0) (y.c 0)≠some i∧own? (y.A 1) (y.m 1) (y.c 1)≠some i)) :
 ∃ρ' M',RP w0 w2 ρ0 ρ' b tb LA' lc' (k+1) D M':=by
 obtain⟨gs',SC,e1,hs1,hs2,hs3,hs4,hs5,hs6,hs7⟩:=Zy hP.s (by omega)
 obtain rfl:gs'=gs:=by rw [hgs] at e1;injection e1 with e1;injection e1 with e1;exact e1.symm
 obtain⟨gi',IC,e2,hi1,hi2,hi3,hi4,hi5,hi6,hi7⟩:=Zy hP.im (by omega)
 obtain rfl:gi'=gi:=by rw [hgi] at e2;injection e2 with e2;injection e2 with e2;exact e2.symm
 obtain⟨ρ',hρ⟩:∃ρ',ρ'=rel ρ k gs' gi' y LA' lc':=⟨_,rfl⟩
 have hns:own? y.SA 2 y.sc=some gs':=by rw [hgs];rfl
 have hni:own? y.IA 2 y.ic=some gi':=by rw [hgi];rfl
 have hsi:gi'≠gs':=fun e=>hP.a1 gs' hns (by rw [hni,e])
 have hA0:=fun i (hi:own? (y.A 0) (y.m 0) (y.c 0)=some i)=>own_ge (hP.r 0 (by omega)) i hi
 have hA1:=fun i (hi:own? (y.A 1) (y.m 1) (y.c 1)=some i)=>own_ge (hP.r 1 (by omega)) i hi
 have hold:∀i,isO ρ i→ρ' i=ρ i:=fun i hi=>by
  have hlt:=hF i hi
  rw [hρ]
  unfold rel
  rw [if_neg (fun e=>hlt.1 (by rw [hns,e])),if_neg (fun e=>hlt.2.1 (by rw [hni,e])),if_neg hlt.2.2.1,if_neg hlt.2.2.2]
  by_cases e:own? LA' (k+1) lc'=some i
  ·rw [if_pos e]
   rcases hL i e with h1|h1
   ·exact h1.symm
   ·exact absurd h1.1 hi
  ·rw [if_neg e]
 have l1:ρ' gs'=.slots k:=by rw [hρ];unfold rel;rw [if_pos rfl]
 have l2:ρ' gi'=.imgs k:=by rw [hρ];unfold rel;rw [if_neg hsi,if_pos rfl]
 have l3:∀i,own? (y.A 0) (y.m 0) (y.c 0)=some i→ρ' i=.row k 0:=fun i hi=>by
  have h2:=hP.a2 0 (by omega) i hi
  rw [hρ];unfold rel
  rw [if_neg (fun e=>h2.1 (by rw [hns,e])),if_neg (fun e=>h2.2.1 (by rw [hni,e])),if_pos hi]
 have l4:∀i,own? (y.A 1) (y.m 1) (y.c 1)=some i→ρ' i=.row k 1:=fun i hi=>by
  have h2:=hP.a2 1 (by omega) i hi
  rw [hρ];unfold rel
  rw [if_neg (fun e=>h2.1 (by rw [hns,e])),if_neg (fun e=>h2.2.1 (by rw [hni,e])),if_neg (h2.2.2 0 (by omega) (by omega)),if_pos hi]
 have l5:∀i,own? LA' (k+1) lc'=some i→ρ' i=.list:=fun i hi=>by
  rcases hL i hi with h1|⟨_,h2,h3,h4,h5⟩
  ·rw [hold i (fun e=>by rw [h1] at e;cases e)];exact h1
  ·rw [hρ];unfold rel
   rw [if_neg h2,if_neg h3,if_neg h4,if_neg h5,if_pos hi]
 have hcas:∀i,ρ' i=ρ i∨(i=gs'∧ρ' i=.slots k)∨(i=gi'∧ρ' i=.imgs k)∨(own? (y.A 0) (y.m 0) (y.c 0)=some i∧ρ' i=.row k 0)∨(own? (y.A 1) (y.m 1) (y.c 1)=some i∧ρ' i=.row k 1)∨(own? LA' (k+1) lc'=some i∧ρ' i=.list):=fun i=>by
  by_cases c1:i=gs'
  ·exact .inr (.inl ⟨c1,by rw [c1];exact l1⟩)
  by_cases c2:i=gi'
  ·exact .inr (.inr (.inl ⟨c2,by rw [c2];exact l2⟩))
  by_cases c3:own? (y.A 0) (y.m 0) (y.c 0)=some i
  ·exact .inr (.inr (.inr (.inl ⟨c3,l3 i c3⟩)))
  by_cases c4:own? (y.A 1) (y.m 1) (y.c 1)=some i
  ·exact .inr (.inr (.inr (.inr (.inl ⟨c4,l4 i c4⟩))))
  by_cases c5:own? LA' (k+1) lc'=some i
  ·exact .inr (.inr (.inr (.inr (.inr ⟨c5,l5 i c5⟩))))
  ·refine .inl ?_
   rw [hρ];unfold rel
   rw [if_neg c1,if_neg c2,if_neg c3,if_neg c4,if_neg c5]
 have hlt2:∀i,isO ρ' i→i<w2.heap.size∧(isD ρ0 i∨w0.heap.size≤i):=fun i hi=>by
  rcases hcas i with c|⟨c,_⟩|⟨c,_⟩|⟨c,_⟩|⟨c,_⟩|⟨c,_⟩
  ·have hi':isO ρ i:=fun e=>hi (by rw [c];exact e)
   exact⟨Mw (h.lt i hi') K.size,h.new_ i hi'⟩
  ·exact⟨by omega,.inr (by omega)⟩
  ·exact⟨by omega,.inr (by omega)⟩
  ·have:=hA0 i c;exact⟨this.2,.inr (by omega)⟩
  ·have:=hA1 i c;exact⟨this.2,.inr (by omega)⟩
  ·have h3:=(hrow.lt i c);exact⟨h3.2,.inr h3.1⟩
 have hdat:∀i,isD ρ' i↔isD ρ i:=fun i=>by
  constructor
  ·intro hi
   have hi:ρ' i=.data:=hi
   rcases hcas i with c|⟨_,c⟩|⟨_,c⟩|⟨_,c⟩|⟨_,c⟩|⟨_,c⟩
   ·show ρ i=.data;rw [←c];exact hi
   all_goals rw [hi] at c;cases c
  ·intro hi
   show ρ' i=.data
   rw [hold i (fun e=>by rw [show ρ i=.data from hi] at e;cases e)]
   exact hi
 have hnk:∀i,ρ i≠.slots k∧ρ i≠.imgs k∧∀j,ρ i≠.row k j:=fun i=>by
  refine⟨fun e=>?_,fun e=>?_,fun j e=>?_⟩
  all_goals
   rcases h.un i _ e with c|c|c|c|⟨p,hp,c|c|c|c⟩
   all_goals first
    | (cases c;omega)
    | cases c
 refine⟨ρ',{ M with sb:=upd M.sb k gs',sc:=upd M.sc k y.sc,SC:=upd M.SC k SC,ib:=upd M.ib k gi',ic:=upd M.ic k y.ic,IC:=upd M.IC k IC },?_⟩
 have hsO:∀{p j i},sH ρ p j i→isO ρ i:=fun {p j i} hi e=>by rcases hi with hi|hi <;> rw [hi] at e <;> cases e
 have hsO':∀{p j i},sH ρ' p j i→isO ρ' i:=fun {p j i} hi e=>by rcases hi with hi|hi <;> rw [hi] at e <;> cases e
 have hdO':∀{i},isD ρ' i→isO ρ' i:=fun {i} hi e=>by rw [show ρ' i=.data from hi] at e;cases e
 have hdis:∀p j i,sH ρ' p j i→¬isD ρ' i:=fun p j i hi hd=>by
  have hd:ρ' i=.data:=hd
  rcases hi with hi|hi <;> rw [hd] at hi <;> cases hi
 have ho1:∀{p j i},sH ρ p j i→sH ρ' p j i:=fun {p j i} hi=>by
  unfold sH
  rw [hold i (hsO hi)]
  exact hi
 have hkp:∀{p:Nat},p<k+1→p≠k→p<k:=fun h1 h2=>by omega
 have hro:∀j,j≤1→∀i,own? (y.A j) (y.m j) (y.c j)=some i→ρ' i=.row k j∧i≠gs':=fun j hj i hi=>by
  have h2:=hP.a2 j (by omega) i hi
  refine⟨?_,fun e=>h2.1 (by rw [hns,e])⟩
  rcases (show j=0∨j=1 by omega) with rfl|rfl
  ·exact l3 i hi
  ·exact l4 i hi
 refine⟨hhead,?_,fun p hp=>?_,fun p hp j hj=>?_,fun p hp=>?_,fun p hp j hj=>?_,?_,l5,fun p hp=>?_,fun p hp=>?_,fun i p hi=>?_,fun i r hr=>?_,fun i hi=>(hlt2 i hi).1,fun i hi=>(hlt2 i hi).2,fun i hi=>(hdat i).2 (h.dat i hi),hb⟩
 ·have e:lst D { M with sb:=upd M.sb k gs',sc:=upd M.sc k y.sc,SC:=upd M.SC k SC,ib:=upd M.ib k gi',ic:=upd M.ic k y.ic,IC:=upd M.IC k IC } (k+1)=lst D M k++ocs (D.O k).r gs' y.sc gi' y.ic:=by
   show lst D _ k++ocs _ (upd M.sb k gs' k) (upd M.sc k y.sc k) (upd M.ib k gi' k) (upd M.ic k y.ic k)=_
   rw [Qw,Qw,Qw,Qw]
   congr 1
   refine qx3 fun q hq=>?_
   show ocs _ (upd M.sb k gs' q) (upd M.sc k y.sc q) (upd M.ib k gi' q) (upd M.ic k y.ic q)=_
   have hne:q≠k:=by omega
   rw [upd_ne _ _ hne,upd_ne _ _ hne,upd_ne _ _ hne,upd_ne _ _ hne]
  rw [e]
  exact hrow
 ·show 2≤upd M.sc k y.sc p∧upd M.sc k y.sc p≤_∧2≤upd M.ic k y.ic p∧upd M.ic k y.ic p≤_
  by_cases e:p=k
  ·subst e
   rw [Qw,Qw]
   exact⟨hs5,hs6,hi5,hi6⟩
  ·rw [upd_ne _ _ e,upd_ne _ _ e]
   exact h.caps p (hkp hp e)
 ·show ROl w2 _ _ (upd M.sb k gs' p) (j*5) (upd M.SC k SC p) _
  by_cases e:p=k
  ·subst e
   rw [Qw,Qw]
   have hf:j*5+(hd ((D.O p).x j) (y.A j) (y.m j) (y.c j)).length≤SC.length:=by rw [Nq,hs4];omega
   have hsl:=hP.sl j (by omega)
   refine⟨y.E j,y.A j,y.m j,y.c j,⟨?_,by rw [hs4];omega,StgD.qzd (hP.r j (by omega)) (Nat.zero_le _),hsl.1,fun q hq=>⟨(hsl.2 q hq).1,fun r o hA=>(hdat r).2 ((hsl.2 q hq).2 r o hA)⟩,.inl l1,fun i hi=>⟨.inr (hro j hj i hi).1,(hro j hj i hi).2⟩,fun i hi=>(hlt2 i (hsO' hi)).1,fun i hi=>(hlt2 i (hdO' hi)).1,hdis p j⟩⟩
   rw [qx2 hf fun i v hi=>hs7 _ v (hds_get (by omega) hi)]
   exact hs3
  ·rw [upd_ne _ _ e,upd_ne _ _ e]
   refine ROl.mono ((h.slot p (hkp hp e) j hj).keep K (fun i hi=>hG i (hsO hi) (fun e2=>?_) (fun e2=>?_)) (fun i hi=>hG i (fun e2=>?_) (fun e2=>?_) (fun e2=>?_))) (fun i hi=>ho1 hi) (fun i hi=>(hdat i).2 hi) (fun i hi=>(hlt2 i (hsO' hi)).1) (fun i hi=>(hlt2 i (hdO' hi)).1) (hdis p j)
   ·rcases hi with hi|hi <;> rw [hi] at e2 <;> cases e2
   ·rcases hi with hi|hi <;> rw [hi] at e2 <;> cases e2
   all_goals (rw [show ρ i=.data from hi] at e2;cases e2)
 ·show Blk w2 (upd M.ib k gi' p) _ (upd M.IC k IC p)∧16≤(upd M.IC k IC p).length
  by_cases e:p=k
  ·subst e
   rw [Qw,Qw]
   exact⟨hi3,by rw [hi4];omega⟩
  ·rw [upd_ne _ _ e,upd_ne _ _ e]
   have hr:=h.ri p (hkp hp e)
   exact⟨K.blk (h.imgs p (hkp hp e)).1 (hG _ (fun e2=>by rw [hr] at e2;cases e2) (by rw [hr];simp) (by rw [hr];simp)),(h.imgs p (hkp hp e)).2⟩
 ·show ∃A m c,(∀i v,_→(upd M.IC k IC p)[j*8+i]?=some v)∧_
  by_cases e:p=k
  ·subst e
   rw [Qw]
   have hg:=hP.ig j (by omega)
   exact⟨y.CA j,y.cm j,y.cc j,fun i v hi=>hi7 _ v (igs_get (by omega) hi),hg.1,fun hm q o hA=>(hdat q).2 (hg.2 hm q o hA)⟩
  ·rw [upd_ne _ _ e]
   obtain⟨A,m,c,h1,h2,h3⟩:=h.img p (hkp hp e) j hj
   refine⟨A,m,c,h1,K.rd h2 fun hm q o hA=>?_,fun hm q o hA=>(hdat q).2 (h3 hm q o hA)⟩
   have hq:=h3 hm q o hA
   exact hG q (fun e2=>by rw [hq] at e2;cases e2) (by rw [hq];simp) (by rw [hq];simp)
 ·rw [hold b (fun e=>by rw [h.rb] at e;cases e)];exact h.rb
 ·show ρ' (upd M.sb k gs' p)=_
  by_cases e:p=k
  ·subst e;rw [Qw];exact l1
  ·rw [upd_ne _ _ e,hold _ (fun e2=>by rw [h.rs p (hkp hp e)] at e2;cases e2)];exact h.rs p (hkp hp e)
 ·show ρ' (upd M.ib k gi' p)=_
  by_cases e:p=k
  ·subst e;rw [Qw];exact l2
  ·rw [upd_ne _ _ e,hold _ (fun e2=>by rw [h.ri p (hkp hp e)] at e2;cases e2)];exact h.ri p (hkp hp e)
 ·show i=upd M.sb k gs' p
  rcases hcas i with c|⟨c,c'⟩|⟨_,c⟩|⟨_,c⟩|⟨_,c⟩|⟨_,c⟩
  ·rw [c] at hi
   have hpk:p≠k:=fun e=>(hnk i).1 (by rw [hi,e])
   rw [upd_ne _ _ hpk]
   exact h.us i p hi
  ·rw [hi] at c'
   injection c' with c'
   rw [c',Qw]
   exact c
  all_goals (rw [hi] at c;cases c)
 ·rcases hcas i with c|⟨_,c⟩|⟨_,c⟩|⟨_,c⟩|⟨_,c⟩|⟨_,c⟩
  ·rw [c] at hr
   rcases h.un i r hr with c1|c1|c1|c1|⟨p,hp,c1⟩
   ·exact .inl c1
   ·exact .inr (.inl c1)
   ·exact .inr (.inr (.inl c1))
   ·exact .inr (.inr (.inr (.inl c1)))
   ·exact .inr (.inr (.inr (.inr ⟨p,by omega,c1⟩)))
  ·exact .inr (.inr (.inr (.inr ⟨k,by omega,.inl (by rw [←hr,c])⟩)))
  ·exact .inr (.inr (.inr (.inr ⟨k,by omega,.inr (.inl (by rw [←hr,c]))⟩)))
  ·exact .inr (.inr (.inr (.inr ⟨k,by omega,.inr (.inr (.inl (by rw [←hr,c])))⟩)))
  ·exact .inr (.inr (.inr (.inr ⟨k,by omega,.inr (.inr (.inr (by rw [←hr,c])))⟩)))
  ·exact .inr (.inr (.inr (.inl (by rw [←hr,c]))))
end
end StoX
namespace StoZ
open Mem RecM ImgT StoM StoV StoE StoU StoX
open StgA (hd)
open RecA (rval rcells)
open Classical in
noncomputable def rl0 (ρ0:Nat→Rl) (xb:Nat) (i:Nat):Rl:=if i=xb then .head else if ρ0 i=.data then .data else .out
def y0:Ly:=⟨none,0,none,0,fun _=>[],fun _=>none,fun _=>0,fun _=>0,fun _=>none,fun _=>0,fun _=>0⟩
section
variable {w w':World} {ρ0 ρ:Nat→Rl} {b n:Nat} {tb:List Value} {D:Dc} {M:Mm}
theorem RP.zero0 (hd:∀i,isD ρ0 i→i<w.heap.size) (hb:Bw w w') (hB:Blk w' w.heap.size 100 (tb++[.slice none 0 0])):RP w w' ρ0 (rl0 ρ0 w.heap.size) w.heap.size tb none 0 0 D M:=by
 refine⟨hB,World.ownsRow_nil _ _ _ _,fun p hp=>absurd hp (by omega),fun p hp=>absurd hp (by omega),fun p hp=>absurd hp (by omega),fun p hp=>absurd hp (by omega),?_,fun i hi=>?_,fun p hp=>absurd hp (by omega),fun p hp=>absurd hp (by omega),fun i p hi=>?_,fun i r hr=>?_,fun i hi=>?_,fun i hi=>?_,fun i hi=>?_,hb⟩
 ·unfold rl0;rw [if_pos rfl]
 ·simp [Value.ownBlock] at hi
 ·unfold rl0 at hi
  split at hi
  ·cases hi
  ·split at hi <;> cases hi
 ·unfold rl0 at hr
  split at hr
  ·exact .inr (.inr (.inl hr.symm))
  ·split at hr
   ·exact .inr (.inl hr.symm)
   ·exact .inl hr.symm
 ·have hs:=hb.size
  have hl:=hB.lt
  by_cases e:i=w.heap.size
  ·omega
  ·by_cases e2:ρ0 i=.data
   ·have:=hd i e2;omega
   ·exact absurd (by unfold rl0;rw [if_neg e,if_neg e2]) hi
 ·by_cases e:i=w.heap.size
  ·exact .inr (by omega)
  ·by_cases e2:ρ0 i=.data
   ·exact .inl e2
   ·exact absurd (by unfold rl0;rw [if_neg e,if_neg e2]) hi
 ·have:=hd i hi
  show rl0 ρ0 w.heap.size i=.data
  unfold rl0
  rw [if_neg (by omega),if_pos (show ρ0 i=.data from hi)]
end
def bx8 (r:Rc) (y:Ly) (ks ki:Nat):List Value:=[.int .i64 r.p,.int .i64 r.q,.int .i64 r.a,.int .i64 r.c,.int .i64 r.l,.int .i64 r.b,.slice y.SA ks y.sc,.slice y.IA ki y.ic]
section
variable {wr wi w2 w3:World} {ks ki:Nat} {o:Ow} {I:Nat→Ig} {ρ:Nat→Rl} {y:Ly}
theorem own_blw {w w':World} {b size:Nat} {e:TypeId} {v:Value} {n:Nat} {xs:List Value} (h:w.ownsRow b e size v n xs) (hb:Bw w w'):w'.ownsRow b e size v n xs:=(Keep.of_below (F:=fun _=>False) hb).own h fun _ _ h=>h
theorem PS.keep {w w':World} {B:Nat} {G:Nat→Prop} (h:PS w B ks ki o I ρ y) (K:Keep G w w') (hG:∀i,G i→i<B) (hD:∀i,isD ρ i→¬G i):PS w' B ks ki o I ρ y:=
 ⟨K.own h.s fun i hi e=>by have:=(own_ge h.s i hi).1;have:=hG i e;omega,K.own h.im fun i hi e=>by have:=(own_ge h.im i hi).1;have:=hG i e;omega,fun j hj=>K.own (h.r j hj) fun i hi e=>by have:=(own_ge (h.r j hj) i hi).1;have:=hG i e;omega,
  fun j hj=>⟨(h.sl j hj).1,fun e he=>⟨K.rd ((h.sl j hj).2 e he).1 fun _ q o' hA=>hD q (((h.sl j hj).2 e he).2 q o' hA),((h.sl j hj).2 e he).2⟩⟩,fun j hj=>⟨K.rd (h.ig j hj).1 fun hm q o' hA=>hD q ((h.ig j hj).2 hm q o' hA),(h.ig j hj).2⟩,h.a1,h.a2⟩
theorem own_mono {w:World} {b b' size:Nat} {e:TypeId} {v:Value} {n:Nat} {xs:List Value} (h:w.ownsRow b' e size v n xs) (hb:b≤b'):w.ownsRow b e size v n xs:=by
 refine⟨h.1,?_⟩
 rcases h.2 with h0|⟨g,cap,cur,e1,e2,rest⟩
 ·exact .inl h0
 ·exact .inr ⟨g,cap,cur,e1,Ml hb e2,rest⟩
end
end StoZ
namespace StoK
open Byt RecM StgM BitM ShaM
def bk (xs:List Nat) (j:Nat):List Nat:=(xs.drop (16*j)).take 16++List.replicate (16-(xs.length-16*j)) 0
theorem bk_len (xs:List Nat) (j:Nat):(bk xs j).length=16:=by
 unfold bk
 rw [Ma,List.length_replicate,Mk_,List.length_drop]
 omega
theorem bk_ne (xs:List Nat) (j:Nat):bk xs j≠[]:=fun e=>by have:=bk_len xs j;rw [e] at this;simp at this
theorem bk_by {xs:List Nat} (h:by256 xs) (j:Nat):by256 (bk xs j):=fun c hc=>by
 unfold bk at hc
 rcases List.mem_append.1 hc with h1|h1
 ·exact h c (List.mem_of_mem_drop (List.mem_of_mem_take h1))
 ·rw [(List.mem_replicate.1 h1).2];omega
structure Ld (xs:List Nat) (q:Int) (j:Nat) (x:Rf):Prop where
 wf:x.wf
 has:x.has=true
 s:x.g.s=q
 z:x.g.z=(xs.length:Nat)
 each:∀i,i<x.bl.length→x.bl.getD i []=if i<j then bk xs i else []
section
variable {xs:List Nat} {q:Int} {j:Nat} {x:Rf}
theorem Ld.len (h:Ld xs q j x):x.bl.length=blocks (xs.length:Nat):=by rw [h.wf.len h.has,h.z]
theorem W6 {z:Int} (hq:1≤q∧q≤65535) (h:1≤z∧z≤160):(fresh q z).right:=by
 refine⟨hq,h,by show (0:Int)≤0;omega,?_⟩
 show (0:Int)<2 ^ blocks z
 have h2:1≤2 ^ blocks z:=Nat.one_le_two_pow
 have h3:((2 ^ blocks z:Nat):Int)=(2:Int) ^ blocks z:=by simp
 omega
theorem ld_first (x:Rf) (hq:1≤q∧q≤65535) (h:1≤xs.length∧xs.length≤160):(rB x q (xs.length:Nat)).2=0∧Ld xs q 0 (rB x q (xs.length:Nat)).1:=by
 have hr:=W6 (z:=((xs.length:Nat):Int)) hq (by omega)
 unfold rB
 rw [if_pos hr]
 refine⟨rfl,K7 hr,rfl,rfl,rfl,fun k hk=>?_⟩
 have hk':k<blocks (xs.length:Nat):=by simpa using hk
 show (List.replicate (blocks (xs.length:Nat)) []).getD k []=_
 rw [Mg,List.getElem?_replicate,if_pos hk',if_neg (by omega)]
 rfl
theorem ld_put (h:Ld xs q j x) (hj:j<x.bl.length):(rP x q j (bk xs j)).2=0∧Ld xs q (j+1) (rP x q j (bk xs j)).1:=by
 have hb':x.bl.getD j []=[]:=by rw [h.each j hj,if_neg (by omega)]
 have hw:StgA.rW x q j (bk xs j).length=0:=by
  unfold StgA.rW
  rw [if_neg (by rw [h.has];simp),if_neg (by rw [h.s];simp),if_neg (by omega),if_neg (by rw [bk_len];simp)]
 rw [StgC.rP_same hw,show ((j:Int)).toNat=j from by omega,if_neg (by rw [hb'];simp)]
 have hy:=rP_yes h.wf h.has hj (bk_len xs j) hb'
 refine⟨rfl,hy.2,rfl,h.s,h.z,fun i hi=>?_⟩
 have hi':i<x.bl.length:=by simpa using hi
 show (x.bl.set j (bk xs j)).getD i []=_
 rw [StgP.Qh _ hj]
 by_cases e:j=i
 ·rw [if_pos e,if_pos (by omega),e]
 ·rw [if_neg e,h.each i hi']
  by_cases e2:i<j
  ·rw [if_pos e2,if_pos (by omega)]
  ·rw [if_neg e2,if_neg (by omega)]
def cat (xs:List Nat):Nat→List Nat
 | 0=>[]
 | m+1=>cat xs m++bk xs m
theorem cat_eq (xs:List Nat) (m:Nat):cat xs m=xs.take (16*m)++List.replicate (16*m-xs.length) 0:=by
 induction m with
 | zero=>simp [cat]
 | succ m ih=>
   show cat xs m++bk xs m=_
   rw [ih]
   unfold bk
   have e:xs.take (16*(m+1))=xs.take (16*m)++(xs.drop (16*m)).take 16:=by
    rw [show 16*(m+1)=16*m+16 from by omega,List.take_add]
   rw [e]
   by_cases h:16*m≤xs.length
   ·rw [show 16*m-xs.length=0 from by omega,List.replicate_zero,List.append_nil,List.append_assoc]
    congr 2
    rw [show 16-(xs.length-16*m)=16*(m+1)-xs.length from by omega]
   ·have hd:xs.drop (16*m)=[]:=List.drop_eq_nil_of_le (by omega)
    rw [hd,List.take_nil,List.nil_append,List.append_nil,List.append_assoc,List.replicate_append_replicate]
    congr 2
    omega
theorem ld_all (h:Ld xs q (blocks (xs.length:Nat)) x) (hn:1≤xs.length∧xs.length≤160):rY x=(xs,0):=by
 have hl:=h.len
 have hall:∀k,k<x.bl.length→x.bl.getD k []=bk xs k:=fun k hk=>by rw [h.each k hk,if_pos (by omega)]
 have hflat:x.bl.flatten=cat xs x.bl.length:=by
  have e:∀m,m≤x.bl.length→(x.bl.take m).flatten=cat xs m:=by
   intro m
   induction m with
   | zero=>intro _;simp [cat]
   | succ m ih=>
     intro hm
     rw [StgD.Tl (by omega),ih (by omega),hall m (by omega)]
     rfl
  have:=e x.bl.length (Mr _)
  rwa [List.take_length] at this
 unfold rY
 rw [if_neg (by rw [h.has];simp),if_neg,hflat,hl,h.z,cat_eq]
 ·have hb:xs.length≤16*blocks (xs.length:Nat):=by unfold blocks;omega
  rw [Mt hb]
  show ((xs++_).take ((xs.length:Nat):Int).toNat,(0:Int))=_
  rw [show (((xs.length:Nat):Int)).toNat=xs.length from by omega,List.take_left]
 intro hm
 obtain⟨i,hi,e⟩:=List.getElem_of_mem hm
 have h1:=hall i hi
 rw [Mg,Mq hi] at h1
 exact bk_ne xs i (h1.symm.trans e)
def ldX (xs:List Nat) (q:Int) (x:Rf):Nat→Rf
 | 0=>(rB x q (xs.length:Nat)).1
 | j+1=>(rP (ldX xs q x j) q j (bk xs j)).1
theorem ldx (x:Rf) (hq:1≤q∧q≤65535) (hn:1≤xs.length∧xs.length≤160):∀j,j≤blocks (xs.length:Nat)→Ld xs q j (ldX xs q x j)
 | 0,_=>(ld_first x hq hn).2
 | j+1,hj=>by
   have h:=ldx x hq hn j (by omega)
   exact (ld_put h (by rw [h.len];omega)).2
end
end StoK
namespace ImgC
open ImgA
theorem Z4 {P:Program} {fn:Func} {p:Tmp} {ty:TypeId} {R:Ending→World→Prop} {a:Act} {w:World} {g:Nat} {t:TypeId} {cs:Array Value} {fr:Nat×Nat} {d:TypeDesc} (h:fn.results = #[.cell p ty]) (h0:a.defers=[])
 (hp:a.tmps.getD p undef=.pointer (some ⟨g,0,none⟩)) (hg:w.heap[g]?=some (.cells cs t fr)) (hu:P.underlying ty=some d) (hd:(match d with | .struct _ | .array _ _=>true|_=>false)=true) (hi:(P.info? ty).map (·.size)=some cs.size)
 (hR:R (.returned (.agg cs)) w):bodyPost P fn R .ret a w:=
 bodyPost_ret (results_cell_row h _ w g t cs fr d hp hg hu hd hi) h0 hR
end ImgC
namespace ImgR
open Kit NumA Mem TabR TxtR
def zeroI:List Value:=[.int .i64 0,.int .i64 0,.int .i64 0,.int .i64 0,.int .i64 0,.int .i64 0,.int .i64 0,.slice none 0 0]
theorem Q7:(Tryz.prog.info? 33).map (·.size)=some 8:=by kernel_rfl
structure G0 (w:World) (g rb:Nat) (xs:List Int) (x:Int) (wr:World):Prop where
 b2:Blk wr g 33 zeroI
 st:St wr rb xs x
 bel:Bw w wr
 l2:w.heap.size≤g
 lr:g<rb
 ok:∀u ∈ xs,0≤u∧u≤255
section
variable {w wr w':World} {g rb:Nat} {xs:List Int} {x:Int}
theorem G0.grown {ys:List Int} {y:Int} (h:G0 w g rb xs x wr) (h1:St w' rb ys y) (hg:wr.grownBy w' (some rb)) (ho:∀u ∈ ys,0≤u∧u≤255):G0 w g rb ys y w':=by
 have l2:=h.l2
 have lr:=h.lr
 have k1:Keep (fun i=>i=rb) wr w':=Keep.grown hg fun i hi=>by injection hi with hi;exact hi.symm
 exact⟨k1.blk h.b2 (by show ¬g=rb;omega),h1,h.bel.trans (k1.below (fun i hi=>by have:i=rb:=hi;omega) h.bel.size),h.l2,h.lr,ho⟩
end
theorem num_v {k:Nat} {q:Int} (hq:wd q=k) {w wr:World} {g rb:Nat} {xs ys:List Int} {x y v:Int} (h:G0 w g rb xs x wr) (hr:rdN k xs x=(v,ys,y)) :
 Calls Tryz.prog 175 #[.pointer (some ⟨rb,0,none⟩),.int .i64 q] wr fun e w'=>e=.returned (.int .i64 v)∧G0 w g rb ys y w':=by
 refine (num_any rb q xs x wr h.st h.ok).mono ?_
 rintro e w' ⟨he,hs,hg⟩
 have ho:=Jt (k:=k) (e:=x) h.ok
 rw [hq,hr] at he hs
 rw [hr] at ho
 exact⟨he,h.grown hs hg ho⟩
theorem Vh (A:Option Addr) (n c:Nat) (xs:List Int) (w:World) (hR:Rd w A n c (u8s xs)) (h8:∀u ∈ xs,0≤u∧u≤255) (hl:n≤100000)
 {v1 v2 v3 v4 v5 v6 v7 e1 e2 e3 e4 e5 e6 e7 e8:Int} {x1 x2 x3 x4 x5 x6 x7 x8 cs:List Int}
 (r1:rdN 1 xs 0=(v1,x1,e1)) (r2:rdN 2 x1 e1=(v2,x2,e2)) (r3:rdN 2 x2 e2=(v3,x3,e3)) (r4:rdN 1 x3 e3=(v4,x4,e4)) (r5:rdN 1 x4 e4=(v5,x5,e5)) (r6:rdN 1 x5 e5=(v6,x6,e6)) (r7:rdN 1 x6 e6=(v7,x7,e7)) (r8:rtx x7 e7=(cs,x8,e8)) :
 Calls Tryz.prog 144 #[.slice A n c] w fun e w'=>∃B m d,e=.returned (.tuple #[.agg #[.int .i64 v1,.int .i64 v2,.int .i64 v3,.int .i64 v4,.int .i64 v5,.int .i64 v6,.int .i64 v7,.slice B m d],.int .i64 (endN x8 e8)])∧Rd w' B m d (u8s cs)∧Bw w w'∧Newer w B m:=by
 have R1:=Hz r1
 have R2:=Hz r2
 have R3:=Hz r3
 have R4:=Hz r4
 have R5:=Hz r5
 have R6:=Hz r6
 have R7:=Hz r7
 have R8:=Hz r8
 have H8:=Hz h8
 have HB0:=Hz (Blk.new w 33 zeroI)
 have HR0:=Hz (hR.alloc (.cells #[.int .i64 0,.int .i64 0,.int .i64 0,.int .i64 0,.int .i64 0,.int .i64 0,.int .i64 0,.slice none 0 0] 33))
 have HL0:=Hz ((Mb w.heap.size w).alloc (Mr _) (.cells #[.int .i64 0,.int .i64 0,.int .i64 0,.int .i64 0,.int .i64 0,.int .i64 0,.int .i64 0,.slice none 0 0] 33))
 clear hR h8 r1 r2 r3 r4 r5 r6 r7 r8
 go_enter Tryz.func144,Tryz.ntmps144
 go_wp2_with fail
 refine (TabR.Vh A n c xs _ HR0.o (by omega)).mono ?_
 rintro e w1 ⟨rb,rfl,hrb,hst,hb1⟩
 have HG0:=Hz (show G0 w w.heap.size rb xs 0 w1 from⟨HB0.o.below hb1,hst,HL0.o.trans (hb1.mono (by simp)),Mr _,by simp at hrb;omega,H8.o⟩)
 clear hrb hst hb1 HB0 HR0 HL0
 go_wp2_with fail
 refine (num_v (k:=1) (q:=1) rfl HG0.o R1.o).mono ?_
 rintro e w2 ⟨rfl,hg1⟩
 have HG1:=Hz hg1
 clear hg1 HG0 R1
 go_wp2_with fail
 refine (num_v (k:=2) (q:=2) rfl HG1.o R2.o).mono ?_
 rintro e w3 ⟨rfl,hg2⟩
 have HG2:=Hz hg2
 clear hg2 HG1 R2
 go_wp2_with fail
 refine (num_v (k:=2) (q:=2) rfl HG2.o R3.o).mono ?_
 rintro e w4 ⟨rfl,hg3⟩
 have HG3:=Hz hg3
 clear hg3 HG2 R3
 go_wp2_with fail
 refine (num_v (k:=1) (q:=1) rfl HG3.o R4.o).mono ?_
 rintro e w5 ⟨rfl,hg4⟩
 have HG4:=Hz hg4
 clear hg4 HG3 R4
 go_wp2_with fail
 refine (num_v (k:=1) (q:=1) rfl HG4.o R5.o).mono ?_
 rintro e w6 ⟨rfl,hg5⟩
 have HG5:=Hz hg5
 clear hg5 HG4 R5
 go_wp2_with fail
 refine (num_v (k:=1) (q:=1) rfl HG5.o R6.o).mono ?_
 rintro e w7 ⟨rfl,hg6⟩
 have HG6:=Hz hg6
 clear hg6 HG5 R6
 go_wp2_with fail
 refine (num_v (k:=1) (q:=1) rfl HG6.o R7.o).mono ?_
 rintro e w8 ⟨rfl,hg7⟩
 have HG7:=Hz hg7
 clear hg7 HG6 R7
 go_wp2_with fail
 refine (TxtR.Gu rb x7 e7 w8 HG7.o.st HG7.o.ok).mono ?_
 rw [R8.o]
 rintro e w9 ⟨B,m,d,rfl,hr9,hs9,hg9,hq9⟩
 have k9:Keep (fun i=>i=rb) w8 w9:=Keep.grown hg9 fun i hi=>by injection hi with hi;exact hi.symm
 have HR9:=Hz hr9
 have HS9:=Hz hs9
 have HB9:=Hz (show Blk w9 w.heap.size 33 zeroI from k9.blk HG7.o.b2 (by show ¬w.heap.size=rb;have:=HG7.o.lr;omega))
 have HL9:=Hz (show Bw w w9 from HG7.o.bel.trans (k9.below (fun i hi=>by have:i=rb:=hi;have:=HG7.o.lr;omega) HG7.o.bel.size))
 have HN9:=Hz (show 0<m→∀b o,B=some ⟨b,o,none⟩→w.heap.size<b from fun h b o hA=>by have:=hq9 h b o hA;have:=HG7.o.b2.lt;omega)
 have hlt9:w.heap.size<w9.heap.size:=by have h1:=HG7.o.b2.lt;have:=hg9.size;omega
 clear hr9 hs9 hg9 hq9 k9 HG7 R8 H8
 go_wp2_with fail
 have ba:Bw w9 (w9.alloc (.cells #[.int .i64 v1,.int .i64 v2,.int .i64 v3,.int .i64 v4,.int .i64 v5,.int .i64 v6,.int .i64 v7,.slice B m d] 33)):=(Mb _ _).alloc (Mr _) _
 have HRb:=Hz (HR9.o.below ba)
 have HSb:=Hz (St.below HS9.o ba)
 have HBb:=Hz (HB9.o.below ba)
 have HLb:=Hz (HL9.o.trans (ba.mono HL9.o.size))
 have HNb:=Hz HN9.o
 have HXb:=Hz (Blk.new w9 33 [.int .i64 v1,.int .i64 v2,.int .i64 v3,.int .i64 v4,.int .i64 v5,.int .i64 v6,.int .i64 v7,.slice B m d])
 have hltb:w.heap.size≤(w9.alloc (.cells #[.int .i64 v1,.int .i64 v2,.int .i64 v3,.int .i64 v4,.int .i64 v5,.int .i64 v6,.int .i64 v7,.slice B m d] 33)).heap.size:=by simp;omega
 obtain⟨wb,hwb⟩:∃wb,wb=w9.alloc (.cells #[.int .i64 v1,.int .i64 v2,.int .i64 v3,.int .i64 v4,.int .i64 v5,.int .i64 v6,.int .i64 v7,.slice B m d] 33):=⟨_,rfl⟩
 replace HXb:=Hz (show Blk wb w9.heap.size 33 [.int .i64 v1,.int .i64 v2,.int .i64 v3,.int .i64 v4,.int .i64 v5,.int .i64 v6,.int .i64 v7,.slice B m d] from by rw [hwb];exact HXb.o)
 rw [←hwb] at HRb HSb HBb HLb hltb ⊢
 clear hwb ba HR9 HS9 HB9 HL9 HN9
 generalize w9.heap.size=gx at *
 have y0:=HXb.o.cell (i:=0) rfl
 have y1:=HXb.o.cell (i:=1) rfl
 have y2:=HXb.o.cell (i:=2) rfl
 have y3:=HXb.o.cell (i:=3) rfl
 have y4:=HXb.o.cell (i:=4) rfl
 have y5:=HXb.o.cell (i:=5) rfl
 have y6:=HXb.o.cell (i:=6) rfl
 have y7:=HXb.o.cell (i:=7) rfl
 refine wp_region_any (by kernel_rfl) ?_
 change wpAny _ _ _ _ _ _ _ (World.drew _)
 refine wpAny_take (i:=1) (v:=.pointer (some ⟨rb,0,none⟩)) rfl (by kernel_rfl) (by kernel_rfl) (by kernel_rfl) (fun _ _ _ h=>h) (Or.inl ⟨by rfl,fun w=>by go_simp⟩) ?_
 try simp only [tq]
 refine wpAny_ready (rs:=[0,2]) (by kernel_rfl) (by simp) ?_
 refine AllReady.cons rfl (fun K hK=>?_) (AllReady.cons rfl (fun K hK=>?_) AllReady.nil)
 ·rw [if_pos (by rfl)]
  go_simp
  refine hK _ _ ?_
  clear hK K
  try simp only [tq]
  refine wpAny_ready (rs:=[2]) (by kernel_rfl) (by simp) ?_
  refine AllReady.cons rfl (fun K hK=>?_) AllReady.nil
  rw [if_pos (by rfl)]
  go_simp
  refine (TabR.end_any rb x8 e8 wb.drew (show St wb.drew rb x8 e8 from HSb.o)).mono ?_
  rintro e w10 ⟨rfl,rfl⟩
  go_wp2_with fail
  try simp only [tq]
  refine wpAny_ready (rs:=[3]) (by kernel_rfl) (by simp) ?_
  refine AllReady.cons rfl (fun K hK=>?_) AllReady.nil
  rw [if_pos (by rfl)]
  refine Zk 33 (.tmp 2) (.tmp 25) rfl w.heap.size 0 rfl (xs:=zeroI) [.int .i64 v1,.int .i64 v2,.int .i64 v3,.int .i64 v4,.int .i64 v5,.int .i64 v6,.int .i64 v7,.slice B m d] rfl (show Blk (World.drew _) _ _ _ from HBb.o) (by simp [zeroI]) Q7 (by intro u hu;simp at hu;rcases hu with rfl|rfl|rfl|rfl|rfl|rfl|rfl|rfl <;> rfl) ?_
  rw [Zt (by simp [zeroI])]
  intro w11 hB11 ho11
  refine hK _ _ ?_
  clear hK K
  try simp only [tq]
  refine wpAny_ready (rs:=[4]) (by kernel_rfl) (by simp) ?_
  refine AllReady.cons rfl (fun K hK=>?_) AllReady.nil
  rw [if_pos (by rfl)]
  go_simp
  refine hK _ _ ?_
  clear hK K
  try simp only [tq]
  refine wpAny_done (by kernel_rfl) ?_ _
  go_wp2
  have hBw:=hB11.o
  have k0:=hBw.cell (i:=0) rfl
  have k1:=hBw.cell (i:=1) rfl
  have k2:=hBw.cell (i:=2) rfl
  have k3:=hBw.cell (i:=3) rfl
  have k4:=hBw.cell (i:=4) rfl
  have k5:=hBw.cell (i:=5) rfl
  have k6:=hBw.cell (i:=6) rfl
  have k7:=hBw.cell (i:=7) rfl
  refine bodyPost_ret (v:=.tuple #[.agg #[.int .i64 v1,.int .i64 v2,.int .i64 v3,.int .i64 v4,.int .i64 v5,.int .i64 v6,.int .i64 v7,.slice B m d],.int .i64 (endN x8 e8)]) (by simp [results,Tryz.results144,go_sem,k0,k1,k2,k3,k4,k5,k6,k7]) rfl ?_
  have kp:Keep (fun i=>i=w.heap.size) wb w11:=Keep.only (Only.of_drew ho11.o) rfl
  exact⟨B,m,d,rfl,kp.rd HRb.o (fun h b o hA hk=>by have:=HNb.o h b o hA;have hk:b=w.heap.size:=hk;omega),(Only.of_drew ho11.o).below HLb.o (Mr _) hltb,fun h b o hA=>Nat.le_of_lt (HNb.o h b o hA)⟩
 ·rw [if_pos (by rfl)]
  go_simp
  refine (TabR.end_any rb x8 e8 wb.drew (show St wb.drew rb x8 e8 from HSb.o)).mono ?_
  rintro e w10 ⟨rfl,rfl⟩
  go_wp2_with fail
  try simp only [tq]
  refine wpAny_ready (rs:=[0]) (by kernel_rfl) (by simp) ?_
  refine AllReady.cons rfl (fun K hK=>?_) AllReady.nil
  rw [if_pos (by rfl)]
  go_simp
  refine hK _ _ ?_
  clear hK K
  try simp only [tq]
  refine wpAny_ready (rs:=[3]) (by kernel_rfl) (by simp) ?_
  refine AllReady.cons rfl (fun K hK=>?_) AllReady.nil
  rw [if_pos (by rfl)]
  refine Zk 33 (.tmp 2) (.tmp 25) rfl w.heap.size 0 rfl (xs:=zeroI) [.int .i64 v1,.int .i64 v2,.int .i64 v3,.int .i64 v4,.int .i64 v5,.int .i64 v6,.int .i64 v7,.slice B m d] rfl (show Blk (World.drew _) _ _ _ from HBb.o) (by simp [zeroI]) Q7 (by intro u hu;simp at hu;rcases hu with rfl|rfl|rfl|rfl|rfl|rfl|rfl|rfl <;> rfl) ?_
  rw [Zt (by simp [zeroI])]
  intro w11 hB11 ho11
  refine hK _ _ ?_
  clear hK K
  try simp only [tq]
  refine wpAny_ready (rs:=[4]) (by kernel_rfl) (by simp) ?_
  refine AllReady.cons rfl (fun K hK=>?_) AllReady.nil
  rw [if_pos (by rfl)]
  go_simp
  refine hK _ _ ?_
  clear hK K
  try simp only [tq]
  refine wpAny_done (by kernel_rfl) ?_ _
  go_wp2
  have hBw:=hB11.o
  have k0:=hBw.cell (i:=0) rfl
  have k1:=hBw.cell (i:=1) rfl
  have k2:=hBw.cell (i:=2) rfl
  have k3:=hBw.cell (i:=3) rfl
  have k4:=hBw.cell (i:=4) rfl
  have k5:=hBw.cell (i:=5) rfl
  have k6:=hBw.cell (i:=6) rfl
  have k7:=hBw.cell (i:=7) rfl
  refine bodyPost_ret (v:=.tuple #[.agg #[.int .i64 v1,.int .i64 v2,.int .i64 v3,.int .i64 v4,.int .i64 v5,.int .i64 v6,.int .i64 v7,.slice B m d],.int .i64 (endN x8 e8)]) (by simp [results,Tryz.results144,go_sem,k0,k1,k2,k3,k4,k5,k6,k7]) rfl ?_
  have kp:Keep (fun i=>i=w.heap.size) wb w11:=Keep.only (Only.of_drew ho11.o) rfl
  exact⟨B,m,d,rfl,kp.rd HRb.o (fun h b o hA hk=>by have:=HNb.o h b o hA;have hk:b=w.heap.size:=hk;omega),(Only.of_drew ho11.o).below HLb.o (Mr _) hltb,fun h b o hA=>Nat.le_of_lt (HNb.o h b o hA)⟩
end ImgR
namespace ImgG
open Kit Byt Mem Beq ShaM ShaE ImgA ImgB ImgS ImgR
theorem Rd.drop {w:World} {g o n c:Nat} {xs:List Value} (h:Rd w (some ⟨g,o,none⟩) n c xs) {k:Nat} (hk:k≤n):Rd w (some ⟨g,o+k,none⟩) (n-k) (c-k) (xs.drop k):=TabR.Rd.drop h hk
theorem has_yes (b o n c:Nat) (B:Option Addr) (d:Nat) (ys:List Nat) (w:World) (hR:Rd w (some ⟨b,o,none⟩) n c (u8n ys)) (hx:by256 ys) (hP:Rd w B 2 d (u8n [76,73])) (h2:2≤ys.length) (ht:ys.take 2=[76,73]) :
 Calls Tryz.prog 173 #[.slice (some ⟨b,o,none⟩) n c,.slice B 2 d] w fun e w'=>e=.returned (.bool true)∧w=w':=by
 have hn:ys.length=n:=Rd.nats hR
 have hc:=hR.le
 have hc2:=hR.cap
 have hq:=Jn (some ⟨b,o,none⟩) B 2 2 c d [76,73] [76,73] w (by rw [←ht];have:=hR.take (k:=2) (by omega);simpa [u8n,List.map_take] using this) hP (by intro u hu;simp at hu;omega) (by intro u hu;simp at hu;omega)
 rw [decide_eq_true rfl] at hq
 have HQ:=Hz hq
 clear hq hR hP ht hx
 have k0:(2:Int)≤(n:Int):=by omega
 have k1:(2:Int)≤(c:Int):=by omega
 have k2:2≤c:=by omega
 go_enter Tryz.func173,Tryz.ntmps173
 go_wp2_with (go_at_call 142;refine HQ.o.mono ?_;rintro e w' ⟨rfl,rfl⟩)
 go_ret
 exact⟨rfl,rfl⟩
theorem Gw (b o n c:Nat) (B:Option Addr) (d:Nat) (ys:List Nat) (w:World) (hR:Rd w (some ⟨b,o,none⟩) n c (u8n ys)) (hx:by256 ys) (hP:Rd w B 2 d (u8n [76,73])) (h2:2≤ys.length) (ht:ys.take 2=[76,73]) :
 Calls Tryz.prog 143 #[.slice (some ⟨b,o,none⟩) n c,.slice B 2 d] w fun e w'=>∃A m k,e=.returned (.tuple #[.slice A m k,.bool true])∧Rd w A m k (u8n (ys.drop 2))∧w=w':=by
 have hn:ys.length=n:=Rd.nats hR
 have hc:=hR.le
 have hc2:=hR.cap
 have HH:=Hz (has_yes b o n c B d ys w hR hx hP h2 ht)
 have HD:=Hz (show Rd w (some ⟨b,o+2,none⟩) (n-2) (c-2) (u8n (ys.drop 2)) from by have:=Rd.drop hR (k:=2) (by omega);simpa [u8n,List.map_drop] using this)
 clear hR hP ht hx
 have k0:(2:Int)≤(n:Int):=by omega
 have k1:(2:Int)≤(c:Int):=by omega
 have k2:2≤n:=by omega
 go_enter Tryz.func143,Tryz.ntmps143
 go_wp2_with (go_at_call 173;refine HH.o.mono ?_;rintro e w' ⟨rfl,rfl⟩)
 ·have e:c=2:=by assumption
  subst e
  go_ret2
  have hn2:n=2:=by omega
  have hd:ys.drop 2=[]:=List.drop_of_length_le (by omega)
  exact⟨_,_,_,rfl,by rw [hd,hn2];exact Rd.empty w _ (by omega),rfl⟩
 ·go_ret2
  exact⟨_,_,_,rfl,HD.o,rfl⟩
theorem Zv:∀u ∈ zeroI,u.oneCell'=true:=by
 intro u hu
 simp [zeroI] at hu
 rcases hu with rfl|rfl <;> rfl
def Gt (w:World) (v:Value) (x:Int) (e:Ending) (w':World):Prop:=e=.returned (.tuple #[v,.int .i64 x])∧Bw w w'
@[reducible] def zeroV:Value:=.agg #[.int .i64 0,.int .i64 0,.int .i64 0,.int .i64 0,.int .i64 0,.int .i64 0,.int .i64 0,.slice none 0 0]
theorem own0 (w:World):Blk (w.alloc (.cells #[.int .i64 0,.int .i64 0,.int .i64 0,.int .i64 0,.int .i64 0,.int .i64 0,.int .i64 0,.slice none 0 0] 33)) w.heap.size 33 zeroI:=Blk.new w _ zeroI
theorem get_short (A:Option Addr) (n c:Nat) (w:World) (hl:n<36):Calls Tryz.prog 96 #[.slice A n c] w (Gt w zeroV 1):=by
 have HB0:=Hz (own0 w)
 have HL0:=Hz ((Mb w.heap.size w).alloc (Mr _) (.cells #[.int .i64 0,.int .i64 0,.int .i64 0,.int .i64 0,.int .i64 0,.int .i64 0,.int .i64 0,.slice none 0 0] 33))
 have h36:(n:Int)<36:=by omega
 go_enter Tryz.func96,Tryz.ntmps96
 go_wp2_with (refine Qq rfl 33 (.tmp 2) (.tmp 12) rfl w.heap.size rfl zeroI rfl HB0.o rfl Q7 Zv ?_;intro w11 hB11 ho11)
 have k0:=hB11.o.cell (i:=0) rfl
 have k1:=hB11.o.cell (i:=1) rfl
 have k2:=hB11.o.cell (i:=2) rfl
 have k3:=hB11.o.cell (i:=3) rfl
 have k4:=hB11.o.cell (i:=4) rfl
 have k5:=hB11.o.cell (i:=5) rfl
 have k6:=hB11.o.cell (i:=6) rfl
 have k7:=hB11.o.cell (i:=7) rfl
 refine bodyPost_ret (v:=.tuple #[.agg #[.int .i64 0,.int .i64 0,.int .i64 0,.int .i64 0,.int .i64 0,.int .i64 0,.int .i64 0,.slice none 0 0],.int .i64 1]) (by simp [results,Tryz.results96,go_sem,k0,k1,k2,k3,k4,k5,k6,k7]) rfl ?_
 exact⟨rfl,ho11.o.below HL0.o (Mr _) (by simp)⟩
theorem get_bad (A:Option Addr) (n c:Nat) (ys:List Nat) (w:World) (hT:Tab w) (hR:Rd w A n c (u8n ys)) (hx:by256 ys) (hl:36≤n) (hm:n≤100000) (hne:ys≠closed (ys.take (n-36))):Calls Tryz.prog 96 #[.slice A n c] w (Gt w zeroV 10):=by
 have hn:ys.length=n:=Rd.nats hR
 have hc:=hR.le
 have hc2:=hR.cap
 obtain⟨b,o,rfl,_,_⟩:=hR.2.2.2 (by omega)
 have HB0:=Hz (own0 w)
 have HL0:=Hz ((Mb w.heap.size w).alloc (Mr _) (.cells #[.int .i64 0,.int .i64 0,.int .i64 0,.int .i64 0,.int .i64 0,.int .i64 0,.int .i64 0,.slice none 0 0] 33))
 have HT:=Hz hT
 have HR:=Hz hR
 have HN:=Hz hn
 have hzt:by256 (ys.take (n-36)):=fun u hu=>hx u (List.mem_of_mem_take hu)
 have HZ:=Hz (show Rd w (some ⟨b,o,none⟩) (n-36) c (u8n (ys.take (n-36))) from by have:=hR.take (k:=n-36) (by omega);simpa [u8n,List.map_take] using this)
 have HS:=Hz (fun w' (hb:Bw w w')=>sealed_any (some ⟨b,o,none⟩) (n-36) c (ys.take (n-36)) w' (hT.below hb hT.1) (HZ.o.below hb) hzt (by simp;omega))
 have hzc:by256 (closed (ys.take (n-36))):=closed_lt hzt
 have HQ:=Hz (fun w' (hb:Bw w w') (B:Option Addr) (m d:Nat) (hB:Rd w' B m d (u8n (closed (ys.take (n-36)))))=>Jn (some ⟨b,o,none⟩) B n m c d ys _ w' (hR.below hb) hB hx hzc)
 rw [decide_eq_false hne] at HQ
 have h36 : ¬(n:Int)<36:=by omega
 have g0:(0:Int)≤(n:Int)-36:=by omega
 have g1:(n:Int)-36≤(c:Int):=by omega
 have g2:((n:Int)-36).toNat=n-36:=by omega
 clear hT hR hn hne hzt hzc
 obtain⟨zs,hzs⟩:∃zs,zs=closed (ys.take (n-36)):=⟨_,rfl⟩
 rw [←hzs] at HS HQ
 clear hzs
 go_enter Tryz.func96,Tryz.ntmps96
 go_wp2_with fail
 refine (HS.o _ HL0.o).mono ?_
 rintro e w2 ⟨B,m,d,rfl,ho2,hb2⟩
 have HL2:=Hz (HL0.o.trans (hb2.mono (by simp)))
 have HB2:=Hz (HB0.o.below hb2)
 have HO2:=Hz (Rd.own ho2)
 clear ho2 hb2 HL0 HB0
 go_wp2_with fail
 refine (HQ.o _ HL2.o B m d HO2.o).mono ?_
 rintro e w3 ⟨rfl,rfl⟩
 go_wp2_with (refine Qq rfl 33 (.tmp 2) (.tmp 23) rfl w.heap.size rfl zeroI rfl HB2.o rfl Q7 Zv ?_;intro w11 hB11 ho11)
 have k0:=hB11.o.cell (i:=0) rfl
 have k1:=hB11.o.cell (i:=1) rfl
 have k2:=hB11.o.cell (i:=2) rfl
 have k3:=hB11.o.cell (i:=3) rfl
 have k4:=hB11.o.cell (i:=4) rfl
 have k5:=hB11.o.cell (i:=5) rfl
 have k6:=hB11.o.cell (i:=6) rfl
 have k7:=hB11.o.cell (i:=7) rfl
 refine bodyPost_ret (v:=.tuple #[.agg #[.int .i64 0,.int .i64 0,.int .i64 0,.int .i64 0,.int .i64 0,.int .i64 0,.int .i64 0,.slice none 0 0],.int .i64 10]) (by simp [results,Tryz.results96,go_sem,k0,k1,k2,k3,k4,k5,k6,k7]) rfl ?_
 exact⟨rfl,ho11.o.below HL2.o (Mr _) HL2.o.size⟩
theorem get_cut (A:Option Addr) (n c:Nat) (zs:List Nat) (w:World) (hT:Tab w) (hR:Rd w A n c (u8n (closed zs))) (hz:by256 zs) (h2:2≤zs.length) (hm:zs.length≤1000) (ht:zs.take 2=[76,73])
 {v1 v2 v3 v4 v5 v6 v7 e1 e2 e3 e4 e5 e6 e7 e8:Int} {x1 x2 x3 x4 x5 x6 x7 x8 cs:List Int}
 (r1:TabR.rdN 1 (nl (zs.drop 2)) 0=(v1,x1,e1)) (r2:TabR.rdN 2 x1 e1=(v2,x2,e2)) (r3:TabR.rdN 2 x2 e2=(v3,x3,e3)) (r4:TabR.rdN 1 x3 e3=(v4,x4,e4)) (r5:TabR.rdN 1 x4 e4=(v5,x5,e5)) (r6:TabR.rdN 1 x5 e5=(v6,x6,e6)) (r7:TabR.rdN 1 x6 e6=(v7,x7,e7)) (r8:TxtR.rtx x7 e7=(cs,x8,e8))
 (hen:TabR.endN x8 e8=1):Calls Tryz.prog 96 #[.slice A n c] w (Gt w zeroV 1):=by
 have hn:(closed zs).length=n:=Rd.nats hR
 rw [Qn] at hn
 have hc:=hR.le
 have hc2:=hR.cap
 obtain⟨b,o,rfl,_,_⟩:=hR.2.2.2 (by omega)
 have HB0:=Hz (own0 w)
 have HL0:=Hz ((Mb w.heap.size w).alloc (Mr _) (.cells #[.int .i64 0,.int .i64 0,.int .i64 0,.int .i64 0,.int .i64 0,.int .i64 0,.int .i64 0,.slice none 0 0] 33))
 have HN:=Hz hn
 have htk:(closed zs).take (n-36)=zs:=by
  unfold closed
  rw [List.append_assoc,List.take_left' (by omega)]
 have HZ:=Hz (show Rd w (some ⟨b,o,none⟩) (n-36) c (u8n zs) from by have:=hR.take (k:=n-36) (by omega);rw [show (u8n (closed zs)).take (n-36)=u8n ((closed zs).take (n-36)) from by simp [u8n]] at this;rwa [htk] at this)
 have HS:=Hz (fun w' (hb:Bw w w')=>sealed_any (some ⟨b,o,none⟩) (n-36) c zs w' (hT.below hb hT.1) (HZ.o.below hb) hz (by omega))
 have HQ:=Hz (fun w' (hb:Bw w w') (B:Option Addr) (m d:Nat) (hB:Rd w' B m d (u8n (closed zs)))=>Jn (some ⟨b,o,none⟩) B n m c d (closed zs) (closed zs) w' (hR.below hb) hB (closed_lt hz) (closed_lt hz))
 rw [decide_eq_true rfl] at HQ
 have HCY:=Hz (fun w' (hb:Bw w w') (B:Option Addr) (d:Nat) (hP:Rd w' B 2 d (u8n [76,73]))=>Gw b o (n-36) c B d zs w' (HZ.o.below hb) hz hP h2 ht)
 have hd8:∀u ∈ nl (zs.drop 2),0≤u∧u≤255:=by
  intro u hu
  simp only [nl,List.mem_map] at hu
  obtain⟨q,hq,rfl⟩:=hu
  have:=hz q (List.mem_of_mem_drop hq)
  omega
 have HRA:=Hz (fun w' (A:Option Addr) (m k:Nat) (h:Rd w' A m k (u8n (zs.drop 2)))=>(hen▸Vh A m k (nl (zs.drop 2)) w' (by rw [←J3];exact h) hd8 (by have:=Rd.nats h;simp at this;omega) r1 r2 r3 r4 r5 r6 r7 r8))
 have h36 : ¬(n:Int)<36:=by omega
 have g0:(0:Int)≤(n:Int)-36:=by omega
 have g1:(n:Int)-36≤(c:Int):=by omega
 have g2:((n:Int)-36).toNat=n-36:=by omega
 have kc:=fun (w:World) (C:Array Value) (n c:Nat)=>Lib.run_convert_bytes_const (P:=Tryz.prog) w 31 5 C n c Tryz.underlying31 Tryz.underlying5
 clear hT hR hn htk ht hz r1 r2 r3 r4 r5 r6 r7 r8 hd8
 go_enter Tryz.func96,Tryz.ntmps96
 go_wp2_with fail
 refine (HS.o _ HL0.o).mono ?_
 rintro e w2 ⟨B,m,d,rfl,ho2,hb2⟩
 have HL2:=Hz (HL0.o.trans (hb2.mono (by simp)))
 have HB2:=Hz (HB0.o.below hb2)
 have HO2:=Hz (Rd.own ho2)
 clear ho2 hb2 HL0 HB0
 go_wp2_with fail
 refine (HQ.o _ HL2.o B m d HO2.o).mono ?_
 rintro e w3 ⟨rfl,rfl⟩
 go_wp2_with fail
 have HL3:=Hz (HL2.o.alloc HL2.o.size (.cells #[.int .u8 76,.int .u8 73] 5 (2,3)))
 have HB3:=Hz (HB2.o.alloc (.cells #[.int .u8 76,.int .u8 73] 5 (2,3)))
 refine (HCY.o _ HL3.o (some ⟨w2.heap.size,0,none⟩) 2 (CrcD.Rd.cells w2 [76,73] 5 (m:=(2,3)) rfl (by omega))).mono ?_
 rintro e w4 ⟨A4,m4,k4,rfl,hr4,rfl⟩
 have HR4:=Hz hr4
 clear hr4
 go_wp2_with fail
 refine (HRA.o _ A4 m4 k4 HR4.o).mono ?_
 rintro e w5 ⟨B5,m5,d5,rfl,hr5,hb5,hq5⟩
 have HL5:=Hz (HL3.o.trans (hb5.mono HL3.o.size))
 have HB5:=Hz (HB3.o.below hb5)
 have HR5:=Hz hr5
 have HN5:=Hz (show 0<m5→∀b o,B5=some ⟨b,o,none⟩→¬b=w.heap.size from fun h b o hA hb=>by have:=hq5 h b o hA;have h3:=HB3.o.lt;omega)
 clear hr5 hb5 hq5 HR4 HL3 HB3 HO2
 have HL6:=Hz (HL5.o.alloc HL5.o.size (.cells #[.int .i64 v1,.int .i64 v2,.int .i64 v3,.int .i64 v4,.int .i64 v5,.int .i64 v6,.int .i64 v7,.slice B5 m5 d5] 33))
 have HB6:=Hz (HB5.o.alloc (.cells #[.int .i64 v1,.int .i64 v2,.int .i64 v3,.int .i64 v4,.int .i64 v5,.int .i64 v6,.int .i64 v7,.slice B5 m5 d5] 33))
 go_wp2_with (refine Qq rfl 33 (.tmp 2) (.tmp 41) rfl w.heap.size rfl zeroI rfl HB6.o rfl Q7 Zv ?_;intro w11 hB11 ho11)
 have k0:=hB11.o.cell (i:=0) rfl
 have k1:=hB11.o.cell (i:=1) rfl
 have k2:=hB11.o.cell (i:=2) rfl
 have k3:=hB11.o.cell (i:=3) rfl
 have k4:=hB11.o.cell (i:=4) rfl
 have k5:=hB11.o.cell (i:=5) rfl
 have k6:=hB11.o.cell (i:=6) rfl
 have k7:=hB11.o.cell (i:=7) rfl
 refine bodyPost_ret (v:=.tuple #[.agg #[.int .i64 0,.int .i64 0,.int .i64 0,.int .i64 0,.int .i64 0,.int .i64 0,.int .i64 0,.slice none 0 0],.int .i64 1]) (by simp [results,Tryz.results96,go_sem,k0,k1,k2,k3,k4,k5,k6,k7]) rfl ?_
 exact⟨rfl,ho11.o.below HL6.o (Mr _) HL6.o.size⟩
theorem get_ok (A:Option Addr) (n c:Nat) (zs:List Nat) (w:World) (hT:Tab w) (hR:Rd w A n c (u8n (closed zs))) (hz:by256 zs) (h2:2≤zs.length) (hm:zs.length≤1000) (ht:zs.take 2=[76,73])
 {v1 v2 v3 v4 v5 v6 v7 e1 e2 e3 e4 e5 e6 e7 e8:Int} {x1 x2 x3 x4 x5 x6 x7 x8 cs:List Int}
 (r1:TabR.rdN 1 (nl (zs.drop 2)) 0=(v1,x1,e1)) (r2:TabR.rdN 2 x1 e1=(v2,x2,e2)) (r3:TabR.rdN 2 x2 e2=(v3,x3,e3)) (r4:TabR.rdN 1 x3 e3=(v4,x4,e4)) (r5:TabR.rdN 1 x4 e4=(v5,x5,e5)) (r6:TabR.rdN 1 x5 e5=(v6,x6,e6)) (r7:TabR.rdN 1 x6 e6=(v7,x7,e7)) (r8:TxtR.rtx x7 e7=(cs,x8,e8))
 (hen:TabR.endN x8 e8=0) {xs:List Nat} (hcs:cs=nl xs) (hri:∀A c,right ⟨v1,v2,v3,v4,v5,v6,v7,A,xs.length,c,xs⟩) (hxs:xs.length≤96):Calls Tryz.prog 96 #[.slice A n c] w fun e w'=>∃B d,Gt w (Im.val ⟨v1,v2,v3,v4,v5,v6,v7,B,xs.length,d,xs⟩) 0 e w'∧Rd w' B xs.length d (u8n xs):=by
 have hn:(closed zs).length=n:=Rd.nats hR
 rw [Qn] at hn
 have hc:=hR.le
 have hc2:=hR.cap
 obtain⟨b,o,rfl,_,_⟩:=hR.2.2.2 (by omega)
 have HB0:=Hz (own0 w)
 have HL0:=Hz ((Mb w.heap.size w).alloc (Mr _) (.cells #[.int .i64 0,.int .i64 0,.int .i64 0,.int .i64 0,.int .i64 0,.int .i64 0,.int .i64 0,.slice none 0 0] 33))
 have HN:=Hz hn
 have htk:(closed zs).take (n-36)=zs:=by
  unfold closed
  rw [List.append_assoc,List.take_left' (by omega)]
 have HZ:=Hz (show Rd w (some ⟨b,o,none⟩) (n-36) c (u8n zs) from by have:=hR.take (k:=n-36) (by omega);rw [show (u8n (closed zs)).take (n-36)=u8n ((closed zs).take (n-36)) from by simp [u8n]] at this;rwa [htk] at this)
 have HS:=Hz (fun w' (hb:Bw w w')=>sealed_any (some ⟨b,o,none⟩) (n-36) c zs w' (hT.below hb hT.1) (HZ.o.below hb) hz (by omega))
 have HQ:=Hz (fun w' (hb:Bw w w') (B:Option Addr) (m d:Nat) (hB:Rd w' B m d (u8n (closed zs)))=>Jn (some ⟨b,o,none⟩) B n m c d (closed zs) (closed zs) w' (hR.below hb) hB (closed_lt hz) (closed_lt hz))
 rw [decide_eq_true rfl] at HQ
 have HCY:=Hz (fun w' (hb:Bw w w') (B:Option Addr) (d:Nat) (hP:Rd w' B 2 d (u8n [76,73]))=>Gw b o (n-36) c B d zs w' (HZ.o.below hb) hz hP h2 ht)
 have hd8:∀u ∈ nl (zs.drop 2),0≤u∧u≤255:=by
  intro u hu
  simp only [nl,List.mem_map] at hu
  obtain⟨q,hq,rfl⟩:=hu
  have:=hz q (List.mem_of_mem_drop hq)
  omega
 have HRA:=Hz (fun w' (A:Option Addr) (m k:Nat) (h:Rd w' A m k (u8n (zs.drop 2)))=>(hen▸Vh A m k (nl (zs.drop 2)) w' (by rw [←J3];exact h) hd8 (by have:=Rd.nats h;simp at this;omega) r1 r2 r3 r4 r5 r6 r7 r8))
 have HRI:=Hz hri
 have h36 : ¬(n:Int)<36:=by omega
 have g0:(0:Int)≤(n:Int)-36:=by omega
 have g1:(n:Int)-36≤(c:Int):=by omega
 have g2:((n:Int)-36).toNat=n-36:=by omega
 have kc:=fun (w:World) (C:Array Value) (n c:Nat)=>Lib.run_convert_bytes_const (P:=Tryz.prog) w 31 5 C n c Tryz.underlying31 Tryz.underlying5
 clear hT hR hn htk ht hz r1 r2 r3 r4 r5 r6 r7 r8 hd8 hri
 go_enter Tryz.func96,Tryz.ntmps96
 go_wp2_with fail
 refine (HS.o _ HL0.o).mono ?_
 rintro e w2 ⟨B,m,d,rfl,ho2,hb2⟩
 have HL2:=Hz (HL0.o.trans (hb2.mono (by simp)))
 have HB2:=Hz (HB0.o.below hb2)
 have HO2:=Hz (Rd.own ho2)
 clear ho2 hb2 HL0 HB0
 go_wp2_with fail
 refine (HQ.o _ HL2.o B m d HO2.o).mono ?_
 rintro e w3 ⟨rfl,rfl⟩
 go_wp2_with fail
 have HL3:=Hz (HL2.o.alloc HL2.o.size (.cells #[.int .u8 76,.int .u8 73] 5 (2,3)))
 have HB3:=Hz (HB2.o.alloc (.cells #[.int .u8 76,.int .u8 73] 5 (2,3)))
 refine (HCY.o _ HL3.o (some ⟨w2.heap.size,0,none⟩) 2 (CrcD.Rd.cells w2 [76,73] 5 (m:=(2,3)) rfl (by omega))).mono ?_
 rintro e w4 ⟨A4,m4,k4,rfl,hr4,rfl⟩
 have HR4:=Hz hr4
 clear hr4
 go_wp2_with fail
 refine (HRA.o _ A4 m4 k4 HR4.o).mono ?_
 rintro e w5 ⟨B5,m5,d5,rfl,hr5,hb5,hq5⟩
 have HL5:=Hz (HL3.o.trans (hb5.mono HL3.o.size))
 have HB5:=Hz (HB3.o.below hb5)
 have HR5:=Hz hr5
 have HN5:=Hz (show 0<m5→∀b o,B5=some ⟨b,o,none⟩→¬b=w.heap.size from fun h b o hA hb=>by have:=hq5 h b o hA;have h3:=HB3.o.lt;omega)
 clear hr5 hb5 hq5 HR4 HL3 HB3 HO2
 have hr5:=HR5.o
 rw [hcs,←J3] at hr5
 obtain rfl:xs.length=m5:=Rd.nats hr5
 replace HR5:=Hz hr5
 have HG:=Hz (fun w'=>right_any ⟨v1,v2,v3,v4,v5,v6,v7,B5,xs.length,d5,xs⟩ w' (by show xs.length≤_;omega) true (by simpa using HRI.o B5 d5))
 clear hr5 HRI hcs
 go_wp2_with fail
 have HX6:=Hz (Blk.new w5 33 [.int .i64 v1,.int .i64 v2,.int .i64 v3,.int .i64 v4,.int .i64 v5,.int .i64 v6,.int .i64 v7,.slice B5 xs.length d5])
 have HL6:=Hz (HL5.o.alloc HL5.o.size (.cells #[.int .i64 v1,.int .i64 v2,.int .i64 v3,.int .i64 v4,.int .i64 v5,.int .i64 v6,.int .i64 v7,.slice B5 xs.length d5] 33))
 have HB6:=Hz (HB5.o.alloc (.cells #[.int .i64 v1,.int .i64 v2,.int .i64 v3,.int .i64 v4,.int .i64 v5,.int .i64 v6,.int .i64 v7,.slice B5 xs.length d5] 33))
 have HR6:=Hz (HR5.o.alloc (.cells #[.int .i64 v1,.int .i64 v2,.int .i64 v3,.int .i64 v4,.int .i64 v5,.int .i64 v6,.int .i64 v7,.slice B5 xs.length d5] 33))
 obtain⟨w6,hw6⟩:∃w6,w6=w5.alloc (.cells #[.int .i64 v1,.int .i64 v2,.int .i64 v3,.int .i64 v4,.int .i64 v5,.int .i64 v6,.int .i64 v7,.slice B5 xs.length d5] 33):=⟨_,rfl⟩
 replace HX6:=Hz (show Blk w6 w5.heap.size 33 [.int .i64 v1,.int .i64 v2,.int .i64 v3,.int .i64 v4,.int .i64 v5,.int .i64 v6,.int .i64 v7,.slice B5 xs.length d5] from by rw [hw6];exact HX6.o)
 rw [←hw6] at HL6 HB6 HR6 ⊢
 clear hw6
 refine (HG.o _).mono ?_
 rintro e w7 ⟨rfl,hb7⟩
 have HX7:=Hz (HX6.o.below hb7)
 have HL7:=Hz (HL6.o.trans (hb7.mono HL6.o.size))
 have HB7:=Hz (HB6.o.below hb7)
 have HR7:=Hz (HR6.o.below hb7)
 clear hb7 HX6 HL6 HB6 HR6
 have y0:=HX7.o.cell (i:=0) rfl
 have y1:=HX7.o.cell (i:=1) rfl
 have y2:=HX7.o.cell (i:=2) rfl
 have y3:=HX7.o.cell (i:=3) rfl
 have y4:=HX7.o.cell (i:=4) rfl
 have y5:=HX7.o.cell (i:=5) rfl
 have y6:=HX7.o.cell (i:=6) rfl
 have y7:=HX7.o.cell (i:=7) rfl
 go_wp2_with (refine Qq rfl 33 (.tmp 2) (.tmp 47) rfl w.heap.size rfl [.int .i64 v1,.int .i64 v2,.int .i64 v3,.int .i64 v4,.int .i64 v5,.int .i64 v6,.int .i64 v7,.slice B5 xs.length d5] rfl HB7.o rfl Q7 (by intro u hu;simp at hu;rcases hu with rfl|rfl|rfl|rfl|rfl|rfl|rfl|rfl <;> rfl) ?_;intro w11 hB11 ho11)
 have k0:=hB11.o.cell (i:=0) rfl
 have k1:=hB11.o.cell (i:=1) rfl
 have k2:=hB11.o.cell (i:=2) rfl
 have k3:=hB11.o.cell (i:=3) rfl
 have k4:=hB11.o.cell (i:=4) rfl
 have k5:=hB11.o.cell (i:=5) rfl
 have k6:=hB11.o.cell (i:=6) rfl
 have k7:=hB11.o.cell (i:=7) rfl
 refine bodyPost_ret (v:=.tuple #[.agg #[.int .i64 v1,.int .i64 v2,.int .i64 v3,.int .i64 v4,.int .i64 v5,.int .i64 v6,.int .i64 v7,.slice B5 xs.length d5],.int .i64 0]) (by simp [results,Tryz.results96,go_sem,k0,k1,k2,k3,k4,k5,k6,k7]) rfl ?_
 have kp:Keep (fun i=>i=w.heap.size) w7 w11:=Keep.only ho11.o rfl
 exact⟨B5,d5,⟨rfl,ho11.o.below HL7.o (Mr _) HL7.o.size⟩,kp.rd HR7.o (fun h b o hA hk=>HN5.o h b o hA hk)⟩
end ImgG
namespace ImgF
open Beq ImgA ImgB ImgS ImgP
theorem fields (i:Im) (hn:i.xs.length=i.n):nl ((head i).drop 2)=NumB.putb i.p 1++(NumB.putb i.v 2++(NumB.putb i.h 2++(NumB.putb i.m 1++(NumB.putb i.f 1++(NumB.putb i.s 1++(NumB.putb i.r 1++(NumB.putb (((nl i.xs).length:Nat):Int) 2++nl i.xs))))))):=by
 have h:(head i).drop 2=pbn i.p 1++(pbn i.v 2++(pbn i.h 2++(pbn i.m 1++(pbn i.f 1++(pbn i.s 1++(pbn i.r 1++(pbn (i.n:Int) 2++i.xs))))))):=by
  simp [head,nums8]
 rw [h]
 simp only [Xt,Ug]
 rw [Ww,hn]
theorem two (i:Im):(head i).take 2=[76,73]:=by simp [head,nums8]
theorem head_le {i:Im} (hn:i.xs.length=i.n) (hr:right i):(head i).length≤109:=by
 rw [J7,hn]
 have:=hr.2.2.2.2.2.2.2.2
 omega
theorem qzw {a b:Nat} (ha:a<4294967296) (hb:b<4294967296) (h:pbn (a:Int) 4=pbn (b:Int) 4):a=b:=by
 have h1:=congrArg nl h
 rw [Ug,Ug] at h1
 have h2:=congrArg TabR.num h1
 rw [TxtR.Wj,TxtR.Wj] at h2
 have h4:NumA.wd 4=4:=rfl
 rw [h4] at h2
 unfold NumB.cl at h2
 have h5:(2:Nat) ^ (8*4)-1=4294967295:=rfl
 rw [h5] at h2
 omega
end ImgF
namespace NumF
open Kit NumA NumB NumE
theorem qzx (B:Option Addr) (m d:Nat) (ts:List Int) (w:World) (ht:Rd w B m d (u8s ts)) :
 Calls Tryz.prog 159 #[.slice B m d] w fun e w'=>Fresh w (txt ts) e w':=by
 obtain⟨i0,hi0,hz0,hz1,hz2⟩:=info_parts info8
 have t1:=ht.le
 have t2:=ht.cap
 have HL:Hid (ts.length=m):=Rd.bytes ht
 by_cases hs:m≤65535
 ·go_enter Tryz.func159,Tryz.ntmps159
  go_wp2_with (first
   | (go_at_call 157;refine (rput_any m 2 _ (by omega)).mono ?_;rintro e w1 ⟨A1,n1,c1,hn1,rfl,hown1,hb1⟩;have hn2:n1≤2:=by have:=hn1.o;rw [this];simp [Jw,Ut])
   | (at_builtin;refine Qu _ rfl (.tmp 11) (.tmp 14) _ rfl w.heap.size 5 i0 _ 1 Tryz.underlying31 hi0 hz0 hz1 hz2 rfl _ n1 (u8s (putb m 2)) rfl hown1 B m d (u8s ts) rfl (ht.below hb1) (u8s_one _) (by omega) (by omega) hb1.size ?_;intro A2 n2 c2 w2 hn3 hown2 hg2 hat2))
  go_ret
  refine Z7 (xs:=putb m 2++ts) (by rw [←Uz];exact hown2) (below_add hb1 hown1 (Mr _) hg2) ?_
  obtain rfl:=HL.o
  rw [txt,Mt hs,Nat.min_eq_left hs]
 ·go_enter Tryz.func159,Tryz.ntmps159
  go_wp2_with (first
   | (go_at_call 157;refine (rput_any 65535 2 _ (by omega)).mono ?_;rintro e w1 ⟨A1,n1,c1,hn1,rfl,hown1,hb1⟩;have hn2:n1≤2:=by have:=hn1.o;rw [this];simp [Jw,Ut])
   | (at_builtin;refine Qu _ rfl (.tmp 11) (.tmp 14) _ rfl w.heap.size 5 i0 _ 1 Tryz.underlying31 hi0 hz0 hz1 hz2 rfl _ n1 (u8s (putb 65535 2)) rfl hown1 B 65535 d ((u8s ts).take 65535) rfl ((ht.take (by omega)).below hb1) (by rw [Vl];exact u8s_one _) (by omega) (by omega) hb1.size ?_;intro A2 n2 c2 w2 hn3 hown2 hg2 hat2))
  go_ret
  refine Z7 (xs:=putb 65535 2++ts.take 65535) (by rw [←Uz,←Vl];exact hown2) (below_add hb1 hown1 (Mr _) hg2) ?_
  obtain rfl:=HL.o
  rw [txt,Nat.min_eq_right (by omega)]
  rfl
end NumF
namespace RefM
open ShaM
def val:List Nat→Nat
 | []=>0
 | d :: l=>d+65536*val l
theorem Uv (l m:List Nat):val (l++m)=val l+65536 ^ l.length*val m:=by
 induction l with
 | nil=>simp [val]
 | cons d l ih=>
   simp only [List.cons_append,val,ih,List.length_cons,Nat.pow_succ]
   rw [Nat.mul_add,←Nat.add_assoc,←Nat.mul_assoc,Nat.mul_comm 65536 (65536 ^ l.length)]
theorem qzy (n:Nat):val (List.replicate n 0)=0:=by
 induction n with
 | zero=>rfl
 | succ n ih=>simp [List.replicate_succ,val,ih]
def digs (l:List Nat):Prop:=∀d ∈ l,d<65536
theorem qzz {l:List Nat} (h:digs l):val l<65536 ^ l.length:=by
 induction l with
 | nil=>simp [val]
 | cons d l ih=>
   have h1:=h d (by simp)
   have h2:=ih fun x hx=>h x (by simp [hx])
   simp only [val,List.length_cons,Nat.pow_succ]
   have:65536*(val l+1)≤65536*65536 ^ l.length:=Nat.mul_le_mul_left _ h2
   omega
theorem Gx {l:List Nat} (h:digs l) (k:Nat) (hk:k≤l.length):val (l.drop k)=val l/65536 ^ k:=by
 have h1:=Uv (l.take k) (l.drop k)
 rw [List.take_append_drop] at h1
 have hlen:(l.take k).length=k:=by simp;omega
 have h2:=qzz (l:=l.take k) fun d hd=>h d (List.mem_of_mem_take hd)
 rw [hlen] at h1 h2
 rw [h1,Nat.add_mul_div_left _ _ (Nat.pow_pos (by decide)),Nat.div_eq_of_lt h2,Nat.zero_add]
theorem qx4 {l:List Nat} (h:digs l) (k:Nat) (hk:k≤l.length):val (l.take k)=val l%65536 ^ k:=by
 have h1:=Uv (l.take k) (l.drop k)
 rw [List.take_append_drop] at h1
 have hlen:(l.take k).length=k:=by simp;omega
 have h2:=qzz (l:=l.take k) fun d hd=>h d (List.mem_of_mem_take hd)
 rw [hlen] at h1 h2
 rw [h1,Nat.add_mul_mod_self_left,Nat.mod_eq_of_lt h2]
theorem Lu {l:List Nat} {k:Nat} (hk:k<l.length) (d:Nat):val (l.set k d)+65536 ^ k*l[k]=val l+65536 ^ k*d:=by
 induction l generalizing k with
 | nil=>simp at hk
 | cons a l ih=>
   match k with
   | 0=>simp only [List.set_cons_zero,val,Nat.pow_zero,Nat.one_mul,List.getElem_cons_zero];omega
   | k+1=>
     have:=ih (k:=k) (by simpa using hk)
     simp only [List.set_cons_succ,val,List.getElem_cons_succ,Nat.pow_succ]
     have e1:65536 ^ k*65536*l[k]'(by simpa using hk)=65536*(65536 ^ k*l[k]'(by simpa using hk)):=by
      rw [Nat.mul_comm (65536 ^ k) 65536,Nat.mul_assoc]
     have e2:65536 ^ k*65536*d=65536*(65536 ^ k*d):=by
      rw [Nat.mul_comm (65536 ^ k) 65536,Nat.mul_assoc]
     rw [e1,e2]
     omega
theorem Lx {l:List Nat} (h:∀d ∈ l,d=0):val l=0:=by
 induction l with
 | nil=>rfl
 | cons d l ih=>
   have h1:=h d (by simp)
   have h2:=ih fun x hx=>h x (by simp [hx])
   simp [val,h1,h2]
theorem Lt {l:List Nat} (h:val l=0):∀d ∈ l,d=0:=by
 induction l with
 | nil=>intro d hd;cases hd
 | cons a l ih=>
   simp only [val] at h
   intro d hd
   rcases List.mem_cons.1 hd with rfl|hd
   ·omega
   ·exact ih (by omega) d hd
def fit (m p d:Nat):Bool:=decide (m ^ d≤p*4294967296 ^ d)
theorem qx5 {r s P d:Nat} (h1:r ^ d≤P) (h2:P<(r+1) ^ d) (h3:s ^ d≤P) (h4:P<(s+1) ^ d):r=s:=by
 rcases Nat.lt_trichotomy r s with h|h|h
 ·have:(r+1) ^ d≤s ^ d:=Nat.pow_le_pow_left h d
  omega
 ·exact h
 ·have:(s+1) ^ d≤r ^ d:=Nat.pow_le_pow_left h d
  omega
def PL:List Nat:=[2,3,5,7,11,13,17,19,23,29,31,37,41,43,47,53,59,61,67,71,73,79,83,89,97,101,103,107,109,113,127,131,137,139,149,151,157,163,167,173,179,181,191,193,197,199,211,223,227,229,233,239,241,251,257,263,269,271,277,281,283,293,307,311]
def pb (p:Nat):List Nat:=PL.filter (· < p)
def isP (p:Nat) (l:List Nat):Bool:=l.all fun q=>p%q != 0
theorem pb_all:∀p,p<313→2≤p→(pb p).length<64→pb (p+1)=if isP p (pb p) then pb p++[p] else pb p:=by decide +kernel
theorem pb_end:∀p,p<313→(pb p).length<64∨pb p=PL:=by decide +kernel
theorem pb_lt:∀p,p<313→∀q ∈ pb p,2≤q∧q<313:=by decide +kernel
theorem pb_less:(pb 312)=PL:=by decide +kernel
theorem pb_two:pb 2=[]:=by decide +kernel
def C2:List Nat:=[1,1,2,2,3,3,4,4]
def C3:List Nat:=[1,1,1,1,2,2,2,2,2,3,3,3,3,3,3,3,3,3,4,4,4,4,4,4,4,4,4,4,4,4,5,5,5,5,5,5,5,5,5,5,5,5,5,5,5,5,5,6,6,6,6,6,6,6,6,6,6,6,6,6,6,6,6,6]
def R2 (i:Nat):Nat:=C2.getD i 0*4294967296+w0.list.getD i 0
def R3 (i:Nat):Nat:=C3.getD i 0*4294967296+KT.getD i 0
theorem roots2:∀i,i<8→R2 i ^ 2≤PL.getD i 0*4294967296 ^ 2∧PL.getD i 0*4294967296 ^ 2<(R2 i+1) ^ 2∧R2 i%4294967296=w0.list.getD i 0:=by decide +kernel
theorem roots3:∀i,i<64→R3 i ^ 3≤PL.getD i 0*4294967296 ^ 3∧PL.getD i 0*4294967296 ^ 3<(R3 i+1) ^ 3∧R3 i%4294967296=KT.getD i 0:=by decide +kernel
theorem PL_lt:∀i,i<64→2≤PL.getD i 0∧PL.getD i 0<312:=by decide +kernel
theorem PL_lt2:∀i,i<8→PL.getD i 0<20:=by decide +kernel
end RefM
namespace RefN
open RefM
def Lay (x:List Nat) (m i k r:Nat) (o:List Nat):Prop:=
 o.length=x.length+4∧r*65536 ^ k≤m∧val o+65536 ^ (i+k)*(x.getD i 0*r)=val (x.take i)*m+65536 ^ i*(x.getD i 0*m)∧
 (∀j (h:j<o.length),o[j]≤(i+1)*4294967296)∧∀j (h:j<o.length),i+k≤j→o[j]≤i*4294967296
def Laid (x:List Nat) (m i:Nat) (o:List Nat):Prop:=
 o.length=x.length+4∧val o=val (x.take i)*m∧∀j (h:j<o.length),o[j]≤i*4294967296
theorem Laid.zero (x:List Nat) (m:Nat):Laid x m 0 (List.replicate (x.length+4) 0):=by
 refine⟨by rw [List.length_replicate],by rw [qzy,List.take_zero];show 0=0*m;omega,fun j h=>?_⟩
 rw [List.getElem_replicate]
 exact Nat.zero_le _
theorem Laid.lay {x:List Nat} {m i:Nat} {o:List Nat} (h:Laid x m i o):Lay x m i 0 m o:=by
 obtain⟨h1,h2,h3⟩:=h
 refine⟨h1,by simp,by rw [h2,Nat.add_zero],fun j hj=>?_,fun j hj _=>h3 j hj⟩
 have h4:=h3 j hj
 exact Ml h4 (Nat.mul_le_mul_right _ (Nat.le_succ i))
theorem Lay.laid {x:List Nat} {m i k:Nat} {o:List Nat} (h:Lay x m i k 0 o) (hi:i<x.length):Laid x m (i+1) o:=by
 obtain⟨h1,_,h2,h3,_⟩:=h
 refine⟨h1,?_,h3⟩
 rw [Nat.mul_zero,Nat.mul_zero,Nat.add_zero] at h2
 have e:x.take (i+1)=x.take i++[x.getD i 0]:=by
  rw [List.take_succ_eq_append_getElem hi,Mg,Mq hi]
  rfl
 have hl:(x.take i).length=i:=by simp;omega
 rw [h2,e,Uv,hl]
 simp only [val,Nat.mul_zero,Nat.add_zero]
 rw [Nat.add_mul,Nat.mul_assoc]
theorem Lay.place {x:List Nat} {m i k r:Nat} {o:List Nat} (h:Lay x m i k r o) (hi:i<x.length) (hm:m<281474976710656) (hr:0<r):i+k<o.length∧k<3:=by
 obtain⟨h1,h2,_⟩:=h
 have h3:65536 ^ k≤m:=Ml (Nat.le_mul_of_pos_left _ hr) h2
 have hk:k<3:=by
  rcases Nat.lt_or_ge k 3 with h|h
  ·exact h
  ·have:65536 ^ 3≤65536 ^ k:=Nat.pow_le_pow_right (by decide) h
   omega
 omega
theorem Lay.next {x:List Nat} {m i k r:Nat} {o:List Nat} (h:Lay x m i k r o) (hx:digs x) (hk:i+k<o.length) :
 Lay x m i (k+1) (r/65536) (o.set (i+k) (o[i+k]+x.getD i 0*(r%65536))):=by
 obtain⟨h1,h2,h3,h4,h5⟩:=h
 have hd:x.getD i 0≤65535:=by
  rw [Mg]
  by_cases hi:i<x.length
  ·rw [Mq hi]
   have:=hx x[i] (Me_ hi)
   simp only [Option.getD_some]
   omega
  ·rw [List.getElem?_eq_none (by omega)]
   simp
 have hprod:x.getD i 0*(r%65536)≤65535*65535:=Nat.mul_le_mul hd (by omega)
 refine⟨by rw [List.length_set,h1],?_,?_,?_,?_⟩
 ·have e:r/65536*65536 ^ (k+1)=(r/65536*65536)*65536 ^ k:=by rw [Nat.pow_succ,Nat.mul_comm (65536 ^ k) 65536,←Nat.mul_assoc]
  rw [e]
  exact Ml (Nat.mul_le_mul_right _ (Nat.div_mul_le_self r 65536)) h2
 ·have hv:=Lu hk (o[i+k]+x.getD i 0*(r%65536))
  rw [Nat.mul_add] at hv
  have e1:65536 ^ (i+(k+1))*(x.getD i 0*(r/65536))=65536 ^ (i+k)*(x.getD i 0*(65536*(r/65536))):=by
   rw [←Nat.add_assoc,Nat.pow_succ,Nat.mul_assoc,Nat.mul_left_comm 65536]
  have e2:65536 ^ (i+k)*(x.getD i 0*r)=65536 ^ (i+k)*(x.getD i 0*(65536*(r/65536)))+65536 ^ (i+k)*(x.getD i 0*(r%65536)):=by
   rw [←Nat.mul_add,←Nat.mul_add,Nat.div_add_mod]
  rw [e1]
  rw [e2] at h3
  omega
 ·intro j hj
  rw [List.getElem_set]
  split
  ·have:=h5 (i+k) hk (Mr _)
   omega
  ·exact h4 j (by simpa using hj)
 ·intro j hj hij
  rw [List.getElem_set,if_neg (by omega)]
  exact h5 j (by simpa using hj) (by omega)
def Carry (V n i:Nat) (o:List Nat):Prop:=
 o.length=n∧val o=V∧(∀j (h:j<o.length),j<i→o[j]<65536)∧∀j (h:j<o.length),o[j]≤137438953472∧(i<j→o[j]≤68719476736)
theorem Laid.carry {x:List Nat} {m:Nat} {o:List Nat} (h:Laid x m x.length o) (hx:x.length≤13):Carry (val x*m) (x.length+4) 0 o:=by
 obtain⟨h1,h2,h3⟩:=h
 rw [Mt (Mr _)] at h2
 refine⟨h1,h2,fun j _ h=>absurd h (by omega),fun j hj=>?_⟩
 have h4:=h3 j hj
 have:x.length*4294967296≤13*4294967296:=Nat.mul_le_mul_right _ hx
 exact⟨by omega,fun _=>by omega⟩
theorem Carry.next {V n i:Nat} {o:List Nat} (h:Carry V n i o) (hi:i+1<o.length) :
 Carry V n (i+1) ((o.set (i+1) (o[i+1]+o[i]'(by omega)/65536)).set i (o[i]'(by omega)%65536)):=by
 obtain⟨h1,h2,h3,h4⟩:=h
 have hb:=h4 i (by omega)
 have hc:=(h4 (i+1) hi).2 (by omega)
 refine⟨by simp [h1],?_,?_,?_⟩
 ·have v1:=Lu hi (o[i+1]+o[i]'(by omega)/65536)
  have hi2:i<(o.set (i+1) (o[i+1]+o[i]'(by omega)/65536)).length:=by simp;omega
  have v2:=Lu hi2 (o[i]'(by omega)%65536)
  rw [List.getElem_set_ne (by omega)] at v2
  rw [Nat.mul_add,Nat.pow_succ] at v1
  have e1:65536 ^ i*65536*(o[i]'(by omega)/65536)=65536 ^ i*(65536*(o[i]'(by omega)/65536)):=Nat.mul_assoc _ _ _
  have e2:65536 ^ i*o[i]'(by omega)=65536 ^ i*(65536*(o[i]'(by omega)/65536))+65536 ^ i*(o[i]'(by omega)%65536):=by rw [←Nat.mul_add,Nat.div_add_mod]
  omega
 ·intro j hj hij
  rw [List.getElem_set]
  split
  ·exact Nat.mod_lt _ (by decide)
  ·rw [List.getElem_set_ne (by omega)]
   exact h3 j (by simpa using hj) (by omega)
 ·intro j hj
  rw [List.getElem_set]
  split
  ·exact⟨by omega,fun h=>absurd h (by omega)⟩
  ·rw [List.getElem_set]
   split
   ·exact⟨by omega,fun h=>absurd h (by omega)⟩
   ·have h5:=h4 j (by simpa using hj)
    exact⟨h5.1,fun h=>h5.2 (by omega)⟩
theorem Carry.end_ {x:List Nat} {m i:Nat} {o:List Nat} (h:Carry (val x*m) (x.length+4) i o) (hi:i+1=x.length+4) (hx:digs x) (hm:m<281474976710656):digs o:=by
 obtain⟨h1,h2,h3,_⟩:=h
 have hlt:val o<65536 ^ (x.length+3):=by
  rw [h2,Nat.pow_add]
  have:=qzz hx
  exact Mw (Nat.mul_lt_mul_of_lt_of_le this (Nat.le_of_lt hm) (by decide)) (Mr _)
 have hap:=Uv (o.take i) (o.drop i)
 rw [List.take_append_drop] at hap
 have hl:(o.take i).length=i:=by simp;omega
 have hdr:o.drop i=[o[i]'(by omega)]:=by
  rw [List.drop_eq_getElem_cons (by omega),List.drop_of_length_le (by omega)]
 rw [hl,hdr] at hap
 simp only [val,Nat.mul_zero,Nat.add_zero] at hap
 have hi3:i=x.length+3:=by omega
 rw [←hi3] at hlt
 have hz:o[i]'(by omega)=0:=by
  rcases Nat.eq_zero_or_pos (o[i]'(by omega)) with h|h
  ·exact h
  ·have:=Nat.le_mul_of_pos_right (65536 ^ i) h
   omega
 intro d hd
 obtain⟨j,hj,rfl⟩:=List.getElem_of_mem hd
 by_cases hji:j=i
 ·subst hji;omega
 ·exact h3 j hj (by omega)
theorem fit_no {x:List Nat} {m p d j:Nat} (hx:digs x) (hv:val x=m ^ d) (hj:2*d≤j) (hjl:j≤x.length) (h:p<val (x.drop j) ):fit m p d=false:=by
 have h1:=Gx hx j hjl
 rw [h1,hv] at h
 have hp:4294967296 ^ d=65536 ^ (2*d):=by rw [Nat.pow_mul]
 have h2:65536 ^ (2*d)≤65536 ^ j:=Nat.pow_le_pow_right (by decide) hj
 have h3:(p+1)*65536 ^ j≤m ^ d:=Ml (Nat.mul_le_mul_right _ h) (Nat.div_mul_le_self _ _)
 have h4:p*65536 ^ (2*d)≤p*65536 ^ j:=Nat.mul_le_mul_left _ h2
 have h5:0<65536 ^ j:=Nat.pow_pos (by decide)
 unfold fit
 rw [hp]
 simp only [decide_eq_false_iff_not]
 rw [Nat.add_mul] at h3
 omega
theorem fit_yes {x:List Nat} {m p d:Nat} (hx:digs x) (hv:val x=m ^ d) (hl:2*d≤x.length) (h:val (x.drop (2*d))<p):fit m p d=true:=by
 have h1:=Gx hx (2*d) hl
 rw [h1,hv] at h
 have hp:4294967296 ^ d=65536 ^ (2*d):=by rw [Nat.pow_mul]
 have h5:0<65536 ^ (2*d):=Nat.pow_pos (by decide)
 have h6:=(Nat.div_lt_iff_lt_mul h5).1 h
 unfold fit
 rw [hp]
 simp only [decide_eq_true_eq]
 omega
theorem fit_even {x:List Nat} {m p d:Nat} (hx:digs x) (hv:val x=m ^ d) (hl:2*d≤x.length) (h:val (x.drop (2*d))=p):fit m p d=(x.take (2*d)).all (·==0):=by
 have h1:=Gx hx (2*d) hl
 have h2:=qx4 hx (2*d) hl
 rw [hv] at h1 h2
 rw [h1] at h
 have hp:4294967296 ^ d=65536 ^ (2*d):=by rw [Nat.pow_mul]
 have hdm:=Nat.div_add_mod (m ^ d) (65536 ^ (2*d))
 rw [h,Nat.mul_comm] at hdm
 have h5:0<65536 ^ (2*d):=Nat.pow_pos (by decide)
 unfold fit
 rw [hp,Bool.eq_iff_iff]
 simp only [decide_eq_true_eq,List.all_eq_true,beq_iff_eq]
 constructor
 ·intro hle
  exact Lt (l:=x.take (2*d)) (by omega)
 ·intro hz
  have:=Lx hz
  omega
end RefN
namespace RefB
open Kit ShaK RefM RefN
def i64n (xs:List Nat):List Value:=xs.map fun n:Nat=>Value.int .i64 (n:Int)
theorem Wz (xs:List Nat):(i64n xs).length=xs.length:=List.length_map ..
theorem Gk (xs:List Nat) (k y:Nat):(i64n xs).set k (.int .i64 (y:Int))=i64n (xs.set k y):=by simp [i64n,List.map_set]
theorem Uu (xs ys:List Nat):i64n xs++i64n ys=i64n (xs++ys):=by simp [i64n]
theorem i64n_one (xs:List Nat):∀u ∈ i64n xs,u.oneCell'=true:=by
 intro u hu
 simp only [i64n,List.mem_map] at hu
 obtain⟨n,_,rfl⟩:=hu
 rfl
theorem qz0 (n:Nat):List.replicate n (Value.int .i64 0)=i64n (List.replicate n 0):=by simp [i64n]
section
variable {w:World} {g:Nat} {t:TypeId} {bs:List Nat}
theorem Gg (h:Blk w g t (i64n bs)) {i:Nat} (hi:i<bs.length):w.cell? ⟨g,i,none⟩=some (.int .i64 (bs.getD i 0:Nat)):=
 h.cell (by simp [i64n,hi])
theorem blk_rd (h:Blk w g t (i64n bs)) (hl:bs.length≤9223372036854775807):Rd w (some ⟨g,0,none⟩) bs.length bs.length (i64n bs):=
 ⟨Wz bs,Mr _,hl,fun _=>⟨g,0,rfl,h.lt,fun j u hu=>by rw [Nat.zero_add];exact h.cell hu⟩⟩
theorem W7 {A:Option Addr} {n c:Nat} (h:Rd w A n c (i64n bs)) {k:Nat} (hk:k<n):∃b o,A=some ⟨b,o,none⟩∧w.cell? ⟨b,o+k,none⟩=some (.int .i64 (bs.getD k 0:Nat)):=by
 obtain⟨b,o,hA,hc⟩:=Rd.at_ h hk
 have hl:k<bs.length:=by have:=h.len;rw [Wz] at this;omega
 exact⟨b,o,hA,by rw [hc];simp [i64n,Mg,Mq hl]⟩
end
theorem Nj {l:List Nat} (h:digs l) (j:Nat):l.getD j 0≤65535:=by
 rw [Mg]
 by_cases hi:j<l.length
 ·rw [Mq hi]
  have:=h l[j] (Me_ hi)
  simp only [Option.getD_some]
  omega
 ·rw [List.getElem?_eq_none (by omega)]
  simp
theorem info64:(Tryz.prog.info? 3).map (fun i=>(i.zero,i.size,i.bytes))=some (some (.int .i64 0),1,8):=by kernel_rfl
theorem times_any (A:Option Addr) (n c:Nat) (x:List Nat) (m:Nat) (w:World) (hr:Rd w A n c (i64n x)) (hx:digs x) (hn:n≤13) (hm:m<281474976710656) :
 Calls Tryz.prog 215 #[.slice A n c,.int .i64 (m:Nat)] w fun e w'=>∃o:List Nat,e=.returned (.slice (some ⟨w.heap.size,0,none⟩) (n+4) (n+4))∧Blk w' w.heap.size 3 (i64n o)∧o.length=n+4∧digs o∧val o=val x*m∧Bw w w':=by
 have hxl:x.length=n:=by have:=hr.len;rwa [Wz] at this
 obtain⟨i0,hi0,hz0,hz1,hz2⟩:=info_parts info64
 go_enter Tryz.func215,Tryz.ntmps215
 go_wp2_with (refine Qx _ rfl (.tmp 12) (.tmp 12) 62 rfl 3 i0 _ 8 Tryz.underlying62 hi0 hz0 hz1 hz2 rfl .i64 .i64 ((n:Int)+4) ((n:Int)+4) (n+4) (n+4) rfl rfl (by omega) (by omega) (by omega) (by omega) (by omega) ?_;intro w1 hB1 hb1 hs1)
 have H0:Hid (Blk w1 w.heap.size 3 (i64n (List.replicate (n+4) 0))):=Hz (by rw [←qz0];exact hB1.o)
 clear hB1
 go_loopw [6,7,8] (fun i _ _ wr=>∃k:Nat,∃o:List Nat,k≤n∧i=.int .i64 k∧Hid (Blk wr w.heap.size 3 (i64n o))∧Hid (Laid x m k o)∧Bw w wr) (fun i _ _ _=>n-(intOf i).toNat)
 case atStart=>exact⟨0,_,Nat.zero_le _,rfl,H0,Hz (by rw [←hxl];exact Laid.zero x m),hb1⟩
 case round=>
  obtain⟨k,o,hk,rfl,hB,hL,hbel⟩:=hrel
  clear H0
  by_cases hlt:k<n
  ·go_wp2
   go_loopw [7,8] (fun r j wr=>∃q t:Nat,∃o:List Nat,r=.int .i64 q∧j=.int .i64 t∧Hid (Blk wr w.heap.size 3 (i64n o))∧Hid (Lay x m k t q o)∧q≤m∧Bw w wr) (fun r _ _=>(intOf r).toNat)
   case atStart=>exact⟨m,0,o,rfl,rfl,hB,Hz hL.o.lay,Mr _,hbel⟩
   case round=>
    clear hB hL hbel
    obtain⟨q,t,o,rfl,rfl,hB,hL,hqm,hbel⟩:=hrel
    by_cases hq:0<q
    ·have hol:=hL.o.1
     have hpl:=hL.o.place (by omega) hm hq
     have cO:=Gg hB.o hpl.1
     have fO:=hB.o.frozen (k+t)
     obtain⟨b,off,rfl,cX⟩:=W7 (hr.below (hbel.mono (Mr _))) hlt
     go_wp2
     have hd:=Nj hx k
     have hmod:q%65536≤65535:=by omega
     have hprod:x.getD k 0*(q%65536)≤65535*65535:=Nat.mul_le_mul hd hmod
     have hob:=hL.o.2.2.2.2 (k+t) hpl.1 (Mr _)
     have hkb:k*4294967296≤13*4294967296:=Nat.mul_le_mul_right _ (by omega)
     have hog:o.getD (k+t) 0=o[k+t]'hpl.1:=by rw [Mg,Mq hpl.1];rfl
     have hN:=hL.o.next hx hpl.1
     rw [←hog] at hN
     have hS:Hid (Blk (wr.drew.setCell ⟨w.heap.size,k+t,none⟩ (.int .i64 ((o.getD (k+t) 0+x.getD k 0*(q%65536):Nat):Int))) w.heap.size 3 (i64n (o.set (k+t) (o.getD (k+t) 0+x.getD k 0*(q%65536))))):=Hz (by
      have h5:=Blk.set (w:=wr.drew) hB.o (k+t) (.int .i64 ((o.getD (k+t) 0+x.getD k 0*(q%65536):Nat):Int))
      rw [Gk] at h5
      exact h5)
     have hbel2:=Hz (hbel.drew.setCell (p:=⟨w.heap.size,k+t,none⟩) (by simp) (.int .i64 ((o.getD (k+t) 0+x.getD k 0*(q%65536):Nat):Int)))
     have hN':=Hz hN
     rw [←hog] at hob
     obtain⟨y,hy⟩:∃y,y=x.getD k 0*(q%65536):=⟨_,rfl⟩
     obtain⟨z,hz⟩:∃z,z=o.getD (k+t) 0+y:=⟨_,rfl⟩
     have w1':IntKind.i64.wrap ((x.getD k 0:Nat)*((q:Int).tmod 65536))=(y:Int):=by
      have e:((x.getD k 0:Nat):Int)*((q:Int).tmod 65536)=(y:Int):=by rw [hy,Int.natCast_mul,Int.tmod_eq_emod_of_nonneg (by omega)];simp
      rw [e,Mi_];omega
     have w2':IntKind.i64.wrap (((o.getD (k+t) 0:Nat):Int)+(y:Int))=(z:Int):=by rw [Mi_];omega
     rw [←hy,←hz] at hS hbel2 hN'
     have w0:IntKind.i64.wrap ((k:Int)+(t:Int))=(k:Int)+(t:Int):=by rw [Mi_];omega
     have t0:((k:Int)+(t:Int)).toNat=k+t:=by omega
     have p0:(0:Int)≤(k:Int)+(t:Int):=by omega
     have q0:(k:Int)+(t:Int)<(n:Int)+4:=by omega
     have r0:(0:Int)≤(k:Int):=by omega
     have r1:(k:Int)<(n:Int):=by omega
     clear hN hob hog hprod hy hz hd hmod hkb
     generalize o.getD (k+t) 0=oc at *
     generalize x.getD k 0=xc at *
     go_wp2
     go_still_tail 14,(by kernel_rfl)
     change wpList _ _ _ _ _ wr.drew
     clear w1' w2' w0 t0 p0 q0 r0 r1 cX
     go_wp2
     go_roundw
     case rel=>exact⟨q/65536,t+1,_,by go_num,by go_num,hS,hN',by omega,hbel2.o⟩
     case measure=>simp [intOf];omega
    ·obtain rfl:q=0:=by omega
     go_wp2
     go_roundw
     case rel=>exact⟨k+1,o,by omega,by go_num,hB,Hz (hL.o.laid (by omega)),hbel⟩
     case measure=>simp [intOf];omega
  ·obtain rfl:k=n:=by omega
   have hC:Hid (Carry (val x*m) (k+4) 0 o):=Hz (by subst hxl;exact hL.o.carry hn)
   clear hL
   go_wp2
   go_loopw [9] (fun i wr=>∃t:Nat,∃o:List Nat,t+1≤k+4∧i=.int .i64 t∧Hid (Blk wr w.heap.size 3 (i64n o))∧Hid (Carry (val x*m) (k+4) t o)∧Bw w wr) (fun i _=>k+4-(intOf i).toNat)
   case atStart=>exact⟨0,o,by omega,rfl,hB,hC,hbel⟩
   case round=>
    clear hB hC hbel
    obtain⟨t,o,ht,rfl,hB,hC,hbel⟩:=hrel
    have hol:=hC.o.1
    by_cases hlt:t+1<k+4
    ·have c0:=Gg hB.o (i:=t) (by omega)
     have c1:=Gg hB.o (i:=t+1) (by omega)
     have f0:=hB.o.frozen t
     have f1:=hB.o.frozen (t+1)
     have hN:=hC.o.next (by omega)
     have g0:o.getD t 0=o[t]'(by omega):=by rw [Mg,Mq (by omega)];rfl
     have g1:o.getD (t+1) 0=o[t+1]'(by omega):=by rw [Mg,Mq (by omega)];rfl
     have b0:=(hC.o.2.2.2 t (by omega)).1
     have b1:=(hC.o.2.2.2 (t+1) (by omega)).1
     rw [←g0] at b0
     rw [←g1] at b1
     rw [←g0,←g1] at hN
     obtain⟨z,hz⟩:∃z,z=o.getD (t+1) 0+o.getD t 0/65536:=⟨_,rfl⟩
     obtain⟨y,hy⟩:∃y,y=o.getD t 0%65536:=⟨_,rfl⟩
     have z1:((o.getD (t+1) 0:Nat):Int)+((o.getD t 0:Nat):Int)/65536=(z:Int):=by omega
     have z2:((o.getD t 0:Nat):Int)%65536=(y:Int):=by omega
     rw [←hz,←hy] at hN
     have hN':=Hz hN
     have hB1:Blk (wr.drew.setCell ⟨w.heap.size,t+1,none⟩ (.int .i64 (((o.getD (t+1) 0:Nat):Int)+((o.getD t 0:Nat):Int)/65536))) w.heap.size 3 (i64n (o.set (t+1) z)):=by
      rw [z1]
      have h5:=Blk.set (w:=wr.drew) hB.o (t+1) (.int .i64 (z:Int))
      rw [Gk] at h5
      exact h5
     have hB2:Blk ((wr.drew.setCell ⟨w.heap.size,t+1,none⟩ (.int .i64 (((o.getD (t+1) 0:Nat):Int)+((o.getD t 0:Nat):Int)/65536))).setCell ⟨w.heap.size,t,none⟩ (.int .i64 (((o.getD t 0:Nat):Int)%65536))) w.heap.size 3 (i64n ((o.set (t+1) z).set t y)):=by
      rw [z2]
      have h5:=Blk.set hB1 t (.int .i64 (y:Int))
      rw [Gk] at h5
      exact h5
     have hbel2:=Hz ((hbel.drew.setCell (p:=⟨w.heap.size,t+1,none⟩) (by simp) (.int .i64 (((o.getD (t+1) 0:Nat):Int)+((o.getD t 0:Nat):Int)/65536))).setCell (p:=⟨w.heap.size,t,none⟩) (by simp) (.int .i64 (((o.getD t 0:Nat):Int)%65536)))
     have c2:=Gg hB1 (i:=t) (by rw [List.length_set];omega)
     have f2:=hB1.frozen t
     have g2:(o.set (t+1) z).getD t 0=o.getD t 0:=by
      rw [Mg,Mg,List.getElem?_set_ne (by omega)]
     rw [g2] at c2
     have hB2':=Hz hB2
     have w0:IntKind.i64.wrap ((t:Int)+1)=(t:Int)+1:=by rw [Mi_];omega
     have t0:((t:Int)+1).toNat=t+1:=by omega
     have p0:(0:Int)≤(t:Int)+1:=by omega
     have q0:(t:Int)+1<(k:Int)+4:=by omega
     have r0:(0:Int)≤(t:Int):=by omega
     have r1:(t:Int)<(k:Int)+4:=by omega
     clear hN g0 g1 g2 hz hy z1 z2 hB1 hB2
     generalize o.getD (t+1) 0=oc1 at *
     generalize o.getD t 0=oc0 at *
     go_wp2
     go_still_tail 11,(by kernel_rfl)
     change wpList _ _ _ _ _ wr.drew
     go_wp2
     go_roundw
     case rel=>exact⟨t+1,_,by omega,by go_num,hB2',hN',hbel2.o⟩
     case measure=>simp [intOf];omega
    ·go_wp2
     go_ret
     refine⟨o,rfl,hB.o,hol,(by subst hxl;exact hC.o.end_ (by omega) hx hm),hC.o.2.1,hbel⟩
end RefB
namespace RefE
open Kit RefM RefB
theorem isP_step {p:Nat} {l:List Nat} {i:Nat} (h:i<l.length):isP p (l.take (i+1))=(isP p (l.take i)&&p%l.getD i 0 != 0):=by
 unfold isP
 rw [List.take_succ_eq_append_getElem h,List.all_append,Mg,Mq h]
 simp
theorem mod_ne (q y:Nat):((q:Int)%(y:Int) != 0)=(q%y != 0):=by
 rw [←Int.natCast_emod,Bool.eq_iff_iff]
 simp only [bne_iff_ne,ne_eq]
 omega
theorem pb_at {p:Nat} (hp:p<313) {i:Nat} (h:i<(pb p).length):2≤(pb p).getD i 0∧(pb p).getD i 0<313:=by
 rw [Mg,Mq h]
 exact pb_lt p hp _ (Me_ h)
theorem pb_go {p:Nat} (hp:p≤312) (h:(pb p).length<64):p<312:=by
 rcases Nat.lt_or_ge p 312 with h1|h1
 ·exact h1
 ·obtain rfl:p=312:=by omega
  rw [pb_less] at h
  exact absurd h (by decide)
theorem pb_full {p:Nat} (hp:p≤312) (h : ¬(pb p).length<64):pb p=PL:=by
 rcases pb_end p (by omega) with h1|h1
 ·exact absurd h1 h
 ·exact h1
theorem one_rd {w:World} (y:Nat) (t:TypeId):Rd (w.alloc (.cells #[.int .i64 (y:Int)] t)) (some ⟨w.heap.size,0,none⟩) 1 1 (i64n [y]):=
 blk_rd (bs:=[y]) (t:=t) (heap_alloc_new w _) (by simp)
theorem primes_any (w:World):Calls Tryz.prog 184 #[.int .i64 64] w fun e w'=>∃A c,e=.returned (.slice A 64 c)∧Rd w' A 64 c (i64n PL)∧Bw w w':=by
 obtain⟨i0,hi0,hz0,hz1,hz2⟩:=info_parts info64
 have H0:Hid (w.ownsRow w.heap.size 3 1 (.slice none 0 0) 0 (i64n (pb 2))):=Hz (by rw [pb_two];exact⟨rfl,.inl ⟨rfl,rfl⟩⟩)
 go_enter Tryz.func184,Tryz.ntmps184
 go_wp2
 go_loopw [3,4,5,6] (fun o p _ _ wr=>∃q n c:Nat,∃A,2≤q∧q≤312∧o=.slice A n c∧p=.int .i64 q∧Hid (n=(pb q).length)∧n≤64∧Hid (wr.ownsRow w.heap.size 3 1 (.slice A n c) n (i64n (pb q)))∧Bw w wr) (fun _ p _ _ _=>313-(intOf p).toNat)
 case atStart=>exact⟨2,0,0,none,by omega,by omega,rfl,rfl,Hz (by rw [pb_two];rfl),by omega,H0,Mb _ _⟩
 case round=>
  clear H0
  obtain⟨q,n,c,A,hq2,hq,rfl,rfl,hn,hn64,hO,hbel⟩:=hrel
  by_cases hlt:n<64
  ·have hq3:q<312:=pb_go hq (by rw [←hn.o];exact hlt)
   have hnext:=Hz (pb_all q (by omega) hq2 (by rw [←hn.o];exact hlt))
   have hR:=Hz (Rd.own hO.o)
   go_wp2
   go_loop [5,6] (fun b i=>∃k:Nat,k≤n∧i=.int .i64 k∧b=.bool (isP q ((pb q).take k))) (fun _ i=>n-(intOf i).toNat)
   case atStart=>exact⟨0,Nat.zero_le _,rfl,rfl⟩
   case round=>
    obtain⟨k,hk,rfl,rfl⟩:=hrel
    by_cases hlt2:k<n
    ·have hs:=Hz (isP_step (p:=q) (l:=pb q) (i:=k) (by rw [←hn.o];exact hlt2))
     have ha:=pb_at (p:=q) (by omega) (i:=k) (by rw [←hn.o];exact hlt2)
     obtain⟨b,off,rfl,cX⟩:=W7 hR.o hlt2
     generalize (pb q).getD k 0=y at *
     rcases hb:isP q ((pb q).take k) with _|_
     ·go_wp2
      go_round
      case rel=>exact⟨k+1,by omega,by go_num,by rw [hs.o,hb];rfl⟩
      case measure=>simp [intOf];omega
     ·go_wp2
      go_round
      case rel=>exact⟨k+1,by omega,by go_num,by rw [hs.o,hb,mod_ne,Bool.true_and]⟩
      case measure=>simp [intOf];omega
    ·obtain rfl:k=n:=by omega
     have hall:Hid ((pb q).take k=pb q):=Hz (Mt (by rw [←hn.o];exact Mr _))
     rw [hall.o]
     rcases hb:isP q (pb q) with _|_
     ·rw [hb] at hnext
      go_wp2
      go_roundw
      case rel=>exact⟨q+1,k,c,A,by omega,by omega,rfl,by go_num,Hz (by rw [hnext.o];exact hn.o),by omega,Hz (by rw [hnext.o];exact hO.o),hbel⟩
      case measure=>simp [intOf];omega
     ·rw [hb] at hnext
      go_wp2_with (at_builtin;refine Qu _ rfl (.tmp 30) (.tmp 32) _ rfl w.heap.size 3 i0 _ 8 Tryz.underlying62 hi0 hz0 hz1 hz2 rfl _ k _ rfl (hO.o.alloc _) (some ⟨wr.heap.size,0,none⟩) 1 1 (i64n [q]) rfl (one_rd q _) (i64n_one _) (by omega) (by omega) (by have:=hbel.size;simp;omega) ?_;intro A3 n3 c3 w3 hn3 hown3 hg3 hat3;have hb3:=below_add (hbel.alloc hbel.size _) (hO.o.alloc _) (Mr _) hg3;clear hat3 hg3)
      go_roundw
      case rel=>exact⟨q+1,n3,c3,A3,by omega,by omega,rfl,by go_num,Hz (by rw [hnext.o,hn3.o];simp;exact hn.o),by have:=hn3.o;omega,Hz (by rw [hnext.o];rw [Uu] at hown3;exact hown3),hb3⟩
      case measure=>simp [intOf];omega
  ·obtain rfl:n=64:=by omega
   have hR:=Rd.own hO.o
   rw [pb_full hq (by rw [←hn.o];exact hlt)] at hR
   go_wp2
   go_ret
   exact⟨A,c,rfl,hR,hbel⟩
end RefE
namespace RefC
open Kit ShaK RefM RefN RefB
theorem qx6 {xs:List Nat} {j:Nat} (h:0<j) (hj:j≤xs.length):val (xs.drop (j-1))=xs.getD (j-1) 0+65536*val (xs.drop j):=by
 rw [List.drop_eq_getElem_cons (show j-1<xs.length by omega),Mg,Mq (show j-1<xs.length by omega)]
 simp only [val,Option.getD_some,Nat.sub_add_cancel h]
theorem Nz (xs:List Nat):val (xs.drop xs.length)=0:=by rw [List.drop_of_length_le (Mr _)];rfl
theorem all_step {xs:List Nat} {t:Nat} (ht:t<xs.length) (h:(xs.take t).all (·==0)=true):(xs.take (t+1)).all (·==0)=(xs.getD t 0==0):=by
 rw [List.take_succ_eq_append_getElem ht,List.all_append,h,Mg,Mq ht]
 simp
theorem all_not {xs:List Nat} {t e:Nat} (he:t<e) (ht:t<xs.length) (h:xs.getD t 0≠0):(xs.take e).all (·==0)=false:=by
 rw [List.all_eq_false]
 refine⟨xs.getD t 0,?_,by simpa using h⟩
 rw [Mg,Mq ht]
 rw [List.mem_take_iff_getElem]
 exact⟨t,by omega,rfl⟩
theorem fits_any (m p d:Nat) (w:World) (hm:m<281474976710656) (hp:p≤65535) (hd:d≤3) :
 Calls Tryz.prog 201 #[.int .i64 (m:Nat),.int .i64 (p:Nat),.int .i64 (d:Nat)] w fun e w'=>e=.returned (.bool (fit m p d))∧Bw w w':=by
 obtain⟨f,hf⟩:∃f,f=fit m p d:=⟨_,rfl⟩
 rw [←hf]
 have HF:=Hz hf
 clear hf
 have B0:Hid (Blk (w.alloc (.cells #[.int .i64 1] 3)) w.heap.size 3 (i64n [1])):=Hz (heap_alloc_new w _)
 go_enter Tryz.func201,Tryz.ntmps201
 go_wp2
 go_loopw [7,8] (fun x i wr=>∃k n c:Nat,∃A,∃xs:List Nat,k≤d∧i=.int .i64 k∧x=.slice A n c∧Hid (Rd wr A n c (i64n xs))∧Hid (digs xs)∧Hid (n=1+4*k)∧Hid (val xs=m ^ k)∧Bw w wr) (fun _ i _=>d-(intOf i).toNat)
 case atStart=>exact⟨0,1,1,_,[1],Nat.zero_le _,rfl,rfl,Hz (blk_rd B0.o (by decide)),Hz (by intro x hx;simp at hx;omega),Hz rfl,Hz rfl,(Mb _ _).alloc (Mr _) _⟩
 case round=>
  clear B0
  obtain⟨k,n,c,A,xs,hk,rfl,rfl,hR,hD,hn,hv,hbel⟩:=hrel
  by_cases hlt:k<d
  ·have h13:n≤13:=by have:=hn.o;omega
   have HT:=Hz (times_any A n c xs m wr hR.o hD.o h13 hm)
   go_wp2_with (go_at_call 215;refine HT.o.mono ?_;rintro e w2 ⟨o,rfl,hB2,ho2,hd2,hv2,hb2⟩)
   replace hB2:=Hz hB2
   replace hv2:=Hz hv2
   replace hd2:=Hz hd2
   go_roundw
   case rel=>
    refine⟨k+1,n+4,n+4,_,o,by omega,by go_num,rfl,Hz ?_,hd2,Hz (by have:=hn.o;omega),Hz (by rw [hv2.o,hv.o,Nat.pow_succ]),hbel.trans (hb2.mono hbel.size)⟩
    rw [←ho2]
    exact blk_rd hB2.o (by omega)
   case measure=>simp [intOf];omega
  ·obtain rfl:k=d:=by omega
   have hxl:Hid (xs.length=n):=Hz (by have:=hR.o.len;rwa [Wz] at this)
   have hn2:2*k≤n:=by have:=hn.o;omega
   have hn16:n≤13:=by have:=hn.o;omega
   have hvd:=hv.o
   go_wp2
   go_loop [9,10] (fun q i=>∃j t:Nat,2*k≤j∧j≤n∧i=.int .i64 ((j:Int)-1)∧q=.int .i64 t∧Hid (t=val (xs.drop j))∧t≤p) (fun _ i=>((intOf i)+1).toNat)
   case atStart=>exact⟨n,0,hn2,Mr _,by go_num,rfl,Hz (by rw [←hxl.o,Nz]),Nat.zero_le _⟩
   case round=>
    obtain⟨j,t,hj,hjn,rfl,rfl,ht,htp⟩:=hrel
    by_cases hlt:2*k<j
    ·obtain⟨b,off,rfl,cX⟩:=W7 (k:=j-1) hR.o (by omega)
     have hv2:Hid (val (xs.drop (j-1))=xs.getD (j-1) 0+65536*t):=Hz (by rw [ht.o];exact qx6 (by omega) (by have:=hxl.o;omega))
     have hdg:=Nj hD.o (j-1)
     have hno:xs.getD (j-1) 0+65536*t > p→fit m p k=false:=fun h=>fit_no (j:=j-1) hD.o hvd (by omega) (by have:=hxl.o;omega) (by rw [hv2.o];exact h)
     have hno':=Hz hno
     have w0:IntKind.i64.wrap ((j:Int)-1)=(j:Int)-1:=by rw [Mi_];omega
     have t0:((j:Int)-1).toNat=j-1:=by omega
     have p0:(0:Int)≤(j:Int)-1:=by omega
     have q0:(j:Int)-1<(n:Int):=by omega
     clear hno
     generalize xs.getD (j-1) 0=y at *
     go_wp2
     ·go_ret
      exact⟨Q3 (by rw [HF.o,hno'.o (by omega)]),hbel⟩
     ·go_round
      case rel=>exact⟨j-1,65536*t+y,by omega,by omega,by go_num,by go_num,Hz (by rw [hv2.o];omega),by omega⟩
      case measure=>simp [intOf];omega
    ·obtain rfl:j=2*k:=by omega
     have hxl2:2*k≤xs.length:=by have:=hxl.o;omega
     by_cases hlp:t<p
     ·have hy:=Hz (fit_yes hD.o hvd hxl2 (by rw [←ht.o];exact hlp))
      go_wp2
      go_ret
      exact⟨Q3 (by rw [HF.o,hy.o]),hbel⟩
     ·obtain rfl:t=p:=by omega
      have he:=Hz (fit_even hD.o hvd hxl2 ht.o.symm)
      go_wp2
      go_loop [11] (fun i=>∃s:Nat,s≤2*k∧i=.int .i64 s∧Hid ((xs.take s).all (·==0)=true)) (fun i=>2*k-(intOf i).toNat)
      case atStart=>exact⟨0,Nat.zero_le _,rfl,Hz rfl⟩
      case round=>
       obtain⟨s,hs,rfl,ha⟩:=hrel
       by_cases hlt3:s<2*k
       ·obtain⟨b,off,rfl,cX⟩:=W7 (k:=s) hR.o (by omega)
        have hst:=Hz (all_step (xs:=xs) (t:=s) (by omega) ha.o)
        have hno:xs.getD s 0≠0→(xs.take (2*k)).all (·==0)=false:=all_not hlt3 (by omega)
        have hno':=Hz hno
        have hsn:s<n:=by omega
        clear hno
        generalize xs.getD s 0=y at *
        go_wp2
        ·go_ret
         exact⟨Q3 (by rw [HF.o,he.o,hno'.o (by omega)]),hbel⟩
        ·go_round
         case rel=>exact⟨s+1,by omega,by go_num,Hz (by rw [hst.o];simp;omega)⟩
         case measure=>simp [intOf];omega
       ·obtain rfl:s=2*k:=by omega
        go_wp2
        go_ret
        exact⟨Q3 (by rw [HF.o,he.o,ha.o]),hbel⟩
end RefC
namespace RefA
open Kit
theorem Vy (a:Nat) (ha:a<9223372036854775808):(BitVec.ofInt 64 (a:Int)).toNat=a:=by
 rw [BitVec.ofInt_natCast,BitVec.toNat_ofNat];exact Nat.mod_eq_of_lt (by omega)
theorem W9 {a b:Nat} (ha:a<4294967296) (hb:b<4294967296):bits .and .i64 (a:Int) (b:Int)=((a&&&b:Nat):Int):=by
 have hx:a&&&b<2 ^ 63:=Nat.and_lt_two_pow _ (by omega)
 show IntKind.i64.wrap ((BitVec.ofInt 64 (a:Int)&&&BitVec.ofInt 64 (b:Int)).toNat:Int)=_
 rw [BitVec.toNat_and,Vy a (by omega),Vy b (by omega),Mi_]
 omega
theorem qz1 {a b:Nat} (ha:a<4294967296) (hb:b<4294967296):bits .or .i64 (a:Int) (b:Int)=((a ||| b:Nat):Int):=by
 have hx:a ||| b<2 ^ 63:=Nat.or_lt_two_pow (by omega) (by omega)
 show IntKind.i64.wrap ((BitVec.ofInt 64 (a:Int) ||| BitVec.ofInt 64 (b:Int)).toNat:Int)=_
 rw [BitVec.toNat_or,Vy a (by omega),Vy b (by omega),Mi_]
 omega
theorem Yn {a b:Nat} (ha:a<4294967296) (hb:b<4294967296):bits .xor .i64 (a:Int) (b:Int)=((a^^^b:Nat):Int):=by
 have hx:a^^^b<2 ^ 63:=Nat.xor_lt_two_pow (by omega) (by omega)
 show IntKind.i64.wrap ((BitVec.ofInt 64 (a:Int)^^^BitVec.ofInt 64 (b:Int)).toNat:Int)=_
 rw [BitVec.toNat_xor,Vy a (by omega),Vy b (by omega),Mi_]
 omega
theorem Xq (n:Nat) (w:World) (hn:n≤61):Calls Tryz.prog 182 #[.int .i64 (n:Nat)] w fun e w'=>e=.returned (.int .i64 (2 ^ n:Nat))∧w=w':=by
 obtain⟨P,hP⟩:∃P,P=2 ^ n:=⟨_,rfl⟩
 rw [←hP]
 have HP:=Hz hP
 clear hP
 go_enter Tryz.func182,Tryz.ntmps182
 go_wp2
 go_loop [3,4] (fun x i=>∃k y:Nat,k≤n∧i=.int .i64 k∧x=.int .i64 (y:Nat)∧Hid (y=2 ^ k)) (fun _ i=>n-(intOf i).toNat)
 case atStart=>exact⟨0,1,Nat.zero_le _,rfl,rfl,Hz rfl⟩
 case round=>
  obtain⟨k,y,hk,rfl,rfl,hy⟩:=hrel
  by_cases hlt:k<n
  ·have hb:y≤2305843009213693952:=by
    rw [hy.o]
    exact Ml (Nat.pow_le_pow_right (by decide) (show k≤61 by omega)) (by decide)
   go_wp2
   go_round
   case rel=>exact⟨k+1,y+y,by omega,by go_num,by go_num,Hz (by rw [Nat.pow_succ,←hy.o];omega)⟩
   case measure=>simp [intOf];omega
  ·obtain rfl:k=n:=by omega
   go_wp2
   go_ret
   exact⟨Qg (by rw [hy.o,HP.o]),rfl⟩
theorem mod_any (n:Nat) (w:World):Calls Tryz.prog 198 #[.int .i64 (n:Nat)] w fun e w'=>e=.returned (.int .i64 (n%4294967296:Nat))∧w=w':=by
 go_enter Tryz.func198,Tryz.ntmps198
 go_wp2
 go_ret
 exact⟨Qg (by omega),rfl⟩
end RefA
namespace RefD
open Kit RefM RefA RefC
theorem fit_zero {p d:Nat} (hd:0<d):fit 0 p d=true:=by
 unfold fit
 rw [Nat.zero_pow hd]
 simp
theorem fit_high {p d:Nat} (h:p<8 ^ d):fit 34359738368 p d=false:=by
 unfold fit
 have e:34359738368 ^ d=8 ^ d*4294967296 ^ d:=by rw [←Nat.mul_pow]
 rw [e]
 simp only [decide_eq_false_iff_not]
 have h2:0<4294967296 ^ d:=Nat.pow_pos (by decide)
 have h3:=Nat.mul_lt_mul_of_pos_right h h2
 omega
theorem fit_one {r s p d:Nat} (h1:fit r p d=true) (h2:fit (r+1) p d=false) (h3:fit s p d=true) (h4:fit (s+1) p d=false):s=r:=by
 unfold fit at h1 h2 h3 h4
 simp only [decide_eq_true_eq,decide_eq_false_iff_not,Nat.not_le] at h1 h2 h3 h4
 exact qx5 h3 h4 h1 h2
theorem qqm (p d r:Nat) (w:World) (hd0:0<d) (hd:d≤3) (hp:p<8 ^ d) (hp2:p≤65535) (h1:fit r p d=true) (h2:fit (r+1) p d=false) :
 Calls Tryz.prog 185 #[.int .i64 (p:Nat),.int .i64 (d:Nat)] w fun e w'=>e=.returned (.int .i64 (r%4294967296:Nat))∧Bw w w':=by
 have H1:=Hz (fit_zero (p:=p) hd0)
 have H2:=Hz (fit_high hp)
 have HR:=Hz (fun s (h3:fit s p d=true) (h4:fit (s+1) p d=false)=>fit_one h1 h2 h3 h4)
 have HP:=Hz hp
 clear h1 h2 hp
 go_enter Tryz.func185,Tryz.ntmps185
 go_wp2
 go_loopw [5,6,7] (fun l h _ wr=>∃a b:Nat,a<b∧b≤34359738368∧l=.int .i64 a∧h=.int .i64 b∧Hid (fit a p d=true)∧Hid (fit b p d=false)∧Bw w wr) (fun l h _ _=>(intOf h-intOf l).toNat)
 case atStart=>exact⟨0,34359738368,by omega,by omega,rfl,rfl,H1,H2,Mb _ _⟩
 case round=>
  clear H1 H2
  obtain⟨a,b,hab,hb,rfl,rfl,hA,hB,hbel⟩:=hrel
  by_cases hlt:1<b-a
  ·obtain⟨m,hm⟩:∃m,m=(a+b)/2:=⟨_,rfl⟩
   have em:((a:Int)+(b:Int))/2=(m:Int):=by omega
   have hm1:a<m:=by omega
   have hm2:m<b:=by omega
   clear hm
   have HFt:=Hz (fits_any m p d wr (by omega) hp2 hd)
   rcases hf:fit m p d with _|_
   ·rw [hf] at HFt
    go_wp2_with (go_at_call 201;refine (HFt.o).mono ?_;rintro e w2 ⟨rfl,hb2⟩)
    go_roundw
    case rel=>exact⟨a,m,hm1,by omega,rfl,rfl,hA,Hz hf,hbel.trans (hb2.mono hbel.size)⟩
    case measure=>simp [intOf];omega
   ·rw [hf] at HFt
    go_wp2_with (go_at_call 201;refine (HFt.o).mono ?_;rintro e w2 ⟨rfl,hb2⟩)
    go_roundw
    case rel=>exact⟨m,b,hm2,hb,rfl,rfl,Hz hf,hB,hbel.trans (hb2.mono hbel.size)⟩
    case measure=>simp [intOf];omega
  ·obtain rfl:b=a+1:=by omega
   go_wp2_with (go_at_call 198;refine (mod_any a _).mono ?_;rintro e w' ⟨rfl,rfl⟩)
   go_ret
   exact⟨Qg (by have:=HR.o a hA.o hB.o;omega),hbel⟩
end RefD
namespace RefH
open ShaM RefM RefD
theorem root2 (i:Nat) (hi:i<8) (w:World):Calls Tryz.prog 185 #[.int .i64 (PL.getD i 0:Nat),.int .i64 2] w fun e w'=>e=.returned (.int .i64 (w0.list.getD i 0:Nat))∧Bw w w':=by
 obtain⟨h1,h2,h3⟩:=roots2 i hi
 have hp:=PL_lt2 i hi
 have:=qqm (PL.getD i 0) 2 (R2 i) w (by decide) (by decide) (Mw hp (by decide)) (by omega) (decide_eq_true h1) (decide_eq_false (Nat.not_le_of_lt h2))
 rw [h3] at this
 exact this
theorem root3 (i:Nat) (hi:i<64) (w:World):Calls Tryz.prog 185 #[.int .i64 (PL.getD i 0:Nat),.int .i64 3] w fun e w'=>e=.returned (.int .i64 (KT.getD i 0:Nat))∧Bw w w':=by
 obtain⟨h1,h2,h3⟩:=roots3 i hi
 have hp:=(PL_lt i hi).2
 have:=qqm (PL.getD i 0) 3 (R3 i) w (by decide) (by decide) (Mw hp (by decide)) (by omega) (decide_eq_true h1) (decide_eq_false (Nat.not_le_of_lt h2))
 rw [h3] at this
 exact this
end RefH
end Go.Proofs.YtpidbddllnidhaaGreatDoor
