/- The parts that this claim uses of: ImgP · TabRE · TxtR · ImgT · StoV · StoE · StoF · RecC · QTail · RecF · StoU · StoX · StoZ0 · StoK · ImgC · ImgR. Conditions: those that each law names. -/
import Derived.Test.YtkepomnbhnnliaaGreatDoorK11
import Derived.Deep.Quiet
import Derived.ChangeKeysEq
import Derived.Laws.StructEq
set_option maxRecDepth 100000
set_option maxHeartbeats 12800000
namespace Go.Proofs.YtkepomnbhnnliaaGreatDoor
namespace ImgP
open Go.RowKit Kit Byt Mem Beq ShaM ShaE ImgA ImgB ImgS
def nums8 (i:Im):List Nat:=[76,73]++pbn i.p 1++pbn i.v 2++pbn i.h 2++pbn i.m 1++pbn i.f 1++pbn i.s 1++pbn i.r 1
def head (i:Im):List Nat:=nums8 i++(pbn (i.n:Int) 2++i.xs)
theorem nums8_len (i:Im):(nums8 i).length=11:=by simp only [nums8,List.length_append,pbn_len];rfl
theorem head_len (i:Im):(head i).length=13+i.xs.length:=by
 rw [head,List.length_append,List.length_append,nums8_len,pbn_len]
 show 11+(2+_)=_
 omega
theorem app_lt {xs ys:List Nat} (hx:by256 xs) (hy:by256 ys):by256 (xs++ys):=fun c hc=>by
 rcases List.mem_append.1 hc with h|h
 ·exact hx c h
 ·exact hy c h
theorem nums8_lt (i:Im):by256 (nums8 i):=by
 unfold nums8
 exact app_lt (app_lt (app_lt (app_lt (app_lt (app_lt (app_lt (by intro c hc;simp at hc;omega) (pbn_lt _ _)) (pbn_lt _ _)) (pbn_lt _ _)) (pbn_lt _ _)) (pbn_lt _ _)) (pbn_lt _ _)) (pbn_lt _ _)
theorem head_lt {i:Im} (h:by256 i.xs):by256 (head i):=app_lt (nums8_lt i) (app_lt (pbn_lt _ _) h)
theorem txt_nl {xs:List Nat} {n:Nat} (hn:xs.length=n) (h:n≤65535):NumE.txt (nl xs)=nl (pbn (n:Int) 2++xs):=by
 rw [nl_app,pbn_nl]
 unfold NumE.txt
 rw [nl_len,hn,Nat.min_eq_left h,List.take_of_length_le (by rw [nl_len];omega)]
theorem put_no (i:Im) (w:World) (hn:i.n≤9223372036854775807) (hr : ¬right i):Calls Tryz.prog 20 #[i.val] w fun e w'=>e=.returned (.tuple #[.slice none 0 0,.int .i64 3])∧Below w.heap.size w w':=by
 have HR:=Hz (fun w'=>right_any i w' hn false (by simpa using hr))
 have HX:=Hz (Bx.new w i)
 clear hr
 obtain⟨p,v,h,m,f,s,r,A,n,c,xs⟩:=i
 show Calls _ _ #[.agg #[.int .i64 p,.int .i64 v,.int .i64 h,.int .i64 m,.int .i64 f,.int .i64 s,.int .i64 r,.slice A n c]] w _
 go_enter Tryz.func20,Tryz.ntmps20
 go_wp2_with fail
 refine (HR.out _).mono ?_
 rintro e w1 ⟨rfl,hb1⟩
 have HX1:=Hz (HX.out.step hb1)
 clear hb1 HX
 go_wp2
 go_ret2
 exact⟨rfl,HX1.out.bel⟩
theorem size1:(Tryz.prog.info? 3).map (·.size)=some 1:=by kernel_rfl
def acc (b:List Int) (m f s r:Int):Nat→List Int
 | 0=>b
 | 1=>b++NumB.putb m 1
 | 2=>b++NumB.putb m 1++NumB.putb f 1
 | 3=>b++NumB.putb m 1++NumB.putb f 1++NumB.putb s 1
 | _=>b++NumB.putb m 1++NumB.putb f 1++NumB.putb s 1++NumB.putb r 1
theorem wd1:NumA.wd 1=1:=rfl
theorem wd2:NumA.wd 2=2:=rfl
theorem fresh_rd {w w':World} {A:Option Addr} {n c:Nat} {xs:List Int} (h:w'.ownsRow w.heap.size 5 1 (.slice A n c) n (NumA.u8s xs)):Rd w' A n c (NumA.u8s xs):=Rd.own h
theorem put_yes (i:Im) (w:World) (hT:Tab w) (ho:i.ok w) (hr:right i):Calls Tryz.prog 20 #[i.val] w fun e w'=>∃B m d,e=.returned (.tuple #[.slice B m d,.int .i64 0])∧w'.ownsRow w.heap.size 5 1 (.slice B m d) m (u8n (closed (head i)))∧Below w.heap.size w w':=by
 have hn:i.xs.length=i.n:=ho.len
 have h96:i.n≤96:=by have:=hr.2.2.2.2.2.2.2;omega
 have HR:=Hz (fun w'=>right_any i w' (by omega) true (by simpa using hr))
 have HX:=Hz (Bx.new w i)
 have HO:=Hz ho
 have HT:=Hz hT
 have HH:=Hz (show nl (head i)=[76,73]++NumB.putb i.p 1++NumB.putb i.v 2++NumB.putb i.h 2++NumB.putb i.m 1++NumB.putb i.f 1++NumB.putb i.s 1++NumB.putb i.r 1++NumE.txt (nl i.xs) from by
  rw [head,nl_app,←txt_nl hn (by omega)]
  simp only [nums8,nl_app,pbn_nl]
  rfl)
 have HL:=Hz (head_lt (i:=i) ho.byt)
 have HLN:=Hz (show (head i).length≤100000 from by rw [head_len];omega)
 have HRD:=Hz (show Rd w i.A i.n i.c (NumA.u8s (nl i.xs)) from by rw [←nl_u8s];exact ho.code)
 clear hr ho hT
 generalize head i=hd at *
 obtain⟨p,v,h,m,f,s,r,A,n,c,xs⟩:=i
 dsimp only at HH HRD hn h96
 show Calls _ _ #[.agg #[.int .i64 p,.int .i64 v,.int .i64 h,.int .i64 m,.int .i64 f,.int .i64 s,.int .i64 r,.slice A n c]] w _
 have kc:=fun (w:World) (C:Array Value) (n c:Nat)=>Lib.run_convert_bytes_const (P:=Tryz.prog) w 52 5 C n c Tryz.underlying52 Tryz.underlying5
 go_enter Tryz.func20,Tryz.ntmps20
 go_wp2_with fail
 refine (HR.out _).mono ?_
 rintro e w1 ⟨rfl,hb1⟩
 have HX1:=Hz (HX.out.step hb1)
 clear hb1 HX
 obtain⟨y0,y1,y2,y3,y4,y5,y6,y7⟩:=HX1.out.cell
 dsimp only at y0 y1 y2 y3 y4 y5 y6 y7
 have hsz:=HX1.out.sz
 go_wp2_with fail
 have HX2:=Hz (HX1.out.alloc (.cells #[.int .u8 76,.int .u8 73] 5 (2,3)))
 have HR2:=Hz (show Rd (w1.alloc (.cells #[.int .u8 76,.int .u8 73] 5 (2,3))) (some ⟨w1.heap.size,0,none⟩) 2 2 (NumA.u8s [76,73]) from CrcD.Rd.cells w1 [76,73] 5 (m:=(2,3)) rfl (by omega))
 refine (NumB.put_any _ 2 2 [76,73] p 1 _ HR2.out (by omega)).mono ?_
 rintro e w3 ⟨A3,n3,c3,hn3,rfl,ho3,hb3⟩
 have HX3:=Hz (HX2.out.step hb3)
 have HR3:=Hz (fresh_rd ho3)
 clear hb3 ho3 hn3 y0 y1 y2 y3 y4 y5 y6 y7 HX1 HX2 HR2 hsz
 obtain⟨y0,y1,y2,y3,y4,y5,y6,y7⟩:=HX3.out.cell
 dsimp only at y0 y1 y2 y3 y4 y5 y6 y7
 go_wp2_with fail
 refine (NumB.put_any A3 n3 c3 ([76,73]++NumB.putb p 1) v 2 _ HR3.out (by have:=NumA.Rd.bytes HR3.out;simp only [List.length_append,NumB.putb_len,wd1,wd2,List.length_cons,List.length_nil] at this;omega)).mono ?_
 rintro e w4 ⟨A4,n4,c4,hn4,rfl,ho4,hb4⟩
 have HX4:=Hz (HX3.out.step hb4)
 have HR4:=Hz (fresh_rd ho4)
 clear hb4 ho4 hn4 y0 y1 y2 y3 y4 y5 y6 y7 HX3 HR3
 obtain⟨y0,y1,y2,y3,y4,y5,y6,y7⟩:=HX4.out.cell
 dsimp only at y0 y1 y2 y3 y4 y5 y6 y7
 go_wp2_with fail
 refine (NumB.put_any A4 n4 c4 ([76,73]++NumB.putb p 1++NumB.putb v 2) h 2 _ HR4.out (by have:=NumA.Rd.bytes HR4.out;simp only [List.length_append,NumB.putb_len,wd1,wd2,List.length_cons,List.length_nil] at this;omega)).mono ?_
 rintro e w5 ⟨A5,n5,c5,hn5,rfl,ho5,hb5⟩
 have HX5:=Hz (HX4.out.step hb5)
 have HR5:=Hz (fresh_rd ho5)
 clear hb5 ho5 hn5 y0 y1 y2 y3 y4 y5 y6 y7 HX4 HR4
 obtain⟨y0,y1,y2,y3,y4,y5,y6,y7⟩:=HX5.out.cell
 dsimp only at y0 y1 y2 y3 y4 y5 y6 y7
 obtain⟨L,hL⟩:∃L,L=[76,73]++NumB.putb p 1++NumB.putb v 2++NumB.putb h 2:=⟨_,rfl⟩
 rw [←hL] at HR5
 have HLL:=Hz (show L.length=7 from by rw [hL];simp only [List.length_append,NumB.putb_len,wd1,wd2,List.length_cons,List.length_nil])
 have HHL:=Hz (show nl hd=acc L m f s r 4++NumE.txt (nl xs) from by rw [HH.out,hL];rfl)
 have hn5:n5=7:=by have:=NumA.Rd.bytes HR5.out;have:=HLL.out;omega
 have HN5:=Hz hn5
 clear hL HH hn5
 go_wp2_with fail
 clear y0 y1 y2 y3 y4 y5 y6 y7
 go_loopw [4,6,32] (fun o q i wr=>∃(k:Nat) (B:Option Addr) (n' d:Nat),k≤4∧i=.int .i64 k∧o=.slice B n' d∧n'≤7+k∧Hid (Rd wr B n' d (NumA.u8s (acc L m f s r k)))∧Hid (Bx w w.heap.size ⟨p,v,h,m,f,s,r,A,n,c,xs⟩ wr)) (fun _ _ i _=>4-(intOf i).toNat)
 case atStart=>exact⟨0,A5,n5,c5,by omega,rfl,rfl,by have:=HN5.out;omega,HR5,HX5⟩
 case round=>
  obtain⟨k,B,n',d,hk,rfl,rfl,hnk,HRk,HXk⟩:=hrel
  match k,hk with
  | 0,_=>
    have HC:=Hz (NumB.put_any B n' d (acc L m f s r 0) m 1 wr HRk.out (by omega))
    have hix:∀w,(Instr.index 127 (.agg #[.int .i64 m,.int .i64 f,.int .i64 s,.int .i64 r]) (.int .i64 0)).run Tryz.prog w=.ok (.int .i64 m) w:=fun w=>run_index_one (k:=0) (xs:=[.int .i64 m,.int .i64 f,.int .i64 s,.int .i64 r]) Tryz.underlying127 ⟨_,Tryz.underlying3⟩ size1 (by omega) rfl w
    go_wp2_with (go_at_call 61;refine HC.out.mono ?_;rintro e w6 ⟨A6,n6,c6,hn6,rfl,ho6,hb6⟩)
    have HN6:=Hz (show n6≤7+1 from by have h1:=hn6.out;have h2:=NumA.Rd.bytes HRk.out;rw [List.length_append,NumB.putb_len,wd1] at h1;omega)
    clear hn6
    go_roundw
    case rel=>exact⟨1,A6,n6,c6,by omega,rfl,rfl,HN6.out,Hz (fresh_rd ho6),Hz (HXk.out.step hb6)⟩
    case measure=>simp [intOf]
  | 1,_=>
    have HC:=Hz (NumB.put_any B n' d (acc L m f s r 1) f 1 wr HRk.out (by omega))
    have hix:∀w,(Instr.index 127 (.agg #[.int .i64 m,.int .i64 f,.int .i64 s,.int .i64 r]) (.int .i64 1)).run Tryz.prog w=.ok (.int .i64 f) w:=fun w=>run_index_one (k:=1) (xs:=[.int .i64 m,.int .i64 f,.int .i64 s,.int .i64 r]) Tryz.underlying127 ⟨_,Tryz.underlying3⟩ size1 (by omega) rfl w
    go_wp2_with (go_at_call 61;refine HC.out.mono ?_;rintro e w6 ⟨A6,n6,c6,hn6,rfl,ho6,hb6⟩)
    have HN6:=Hz (show n6≤7+2 from by have h1:=hn6.out;have h2:=NumA.Rd.bytes HRk.out;rw [List.length_append,NumB.putb_len,wd1] at h1;omega)
    clear hn6
    go_roundw
    case rel=>exact⟨2,A6,n6,c6,by omega,rfl,rfl,HN6.out,Hz (fresh_rd ho6),Hz (HXk.out.step hb6)⟩
    case measure=>simp [intOf]
  | 2,_=>
    have HC:=Hz (NumB.put_any B n' d (acc L m f s r 2) s 1 wr HRk.out (by omega))
    have hix:∀w,(Instr.index 127 (.agg #[.int .i64 m,.int .i64 f,.int .i64 s,.int .i64 r]) (.int .i64 2)).run Tryz.prog w=.ok (.int .i64 s) w:=fun w=>run_index_one (k:=2) (xs:=[.int .i64 m,.int .i64 f,.int .i64 s,.int .i64 r]) Tryz.underlying127 ⟨_,Tryz.underlying3⟩ size1 (by omega) rfl w
    go_wp2_with (go_at_call 61;refine HC.out.mono ?_;rintro e w6 ⟨A6,n6,c6,hn6,rfl,ho6,hb6⟩)
    have HN6:=Hz (show n6≤7+3 from by have h1:=hn6.out;have h2:=NumA.Rd.bytes HRk.out;rw [List.length_append,NumB.putb_len,wd1] at h1;omega)
    clear hn6
    go_roundw
    case rel=>exact⟨3,A6,n6,c6,by omega,rfl,rfl,HN6.out,Hz (fresh_rd ho6),Hz (HXk.out.step hb6)⟩
    case measure=>simp [intOf]
  | 3,_=>
    have HC:=Hz (NumB.put_any B n' d (acc L m f s r 3) r 1 wr HRk.out (by omega))
    have hix:∀w,(Instr.index 127 (.agg #[.int .i64 m,.int .i64 f,.int .i64 s,.int .i64 r]) (.int .i64 3)).run Tryz.prog w=.ok (.int .i64 r) w:=fun w=>run_index_one (k:=3) (xs:=[.int .i64 m,.int .i64 f,.int .i64 s,.int .i64 r]) Tryz.underlying127 ⟨_,Tryz.underlying3⟩ size1 (by omega) rfl w
    go_wp2_with (go_at_call 61;refine HC.out.mono ?_;rintro e w6 ⟨A6,n6,c6,hn6,rfl,ho6,hb6⟩)
    have HN6:=Hz (show n6≤7+4 from by have h1:=hn6.out;have h2:=NumA.Rd.bytes HRk.out;rw [List.length_append,NumB.putb_len,wd1] at h1;omega)
    clear hn6
    go_roundw
    case rel=>exact⟨4,A6,n6,c6,by omega,rfl,rfl,HN6.out,Hz (fresh_rd ho6),Hz (HXk.out.step hb6)⟩
    case measure=>simp [intOf]
  | 4,_=>
    obtain⟨y0,y1,y2,y3,y4,y5,y6,y7⟩:=HXk.out.cell
    dsimp only at y0 y1 y2 y3 y4 y5 y6 y7
    have HTX:=Hz (NumE.text_any B n' d (acc L m f s r 4) A n c (nl xs) wr HRk.out (HRD.out.below HXk.out.bel) (by omega))
    go_wp2_with fail
    refine HTX.out.mono ?_
    rintro e w7 ⟨A7,n7,c7,hn7,rfl,ho7,hb7⟩
    have HX7:=Hz (HXk.out.step hb7)
    have HR7:=Hz (show Rd w7 A7 n7 c7 (u8n hd) from by rw [nl_u8s,HHL.out];exact fresh_rd ho7)
    clear hn7 ho7 hb7 y0 y1 y2 y3 y4 y5 y6 y7
    have HSE:=Hz (sealed_any A7 n7 c7 hd w7 (HT.out.below HX7.out.bel HT.out.1) HR7.out HL.out HLN.out)
    go_wp2_with fail
    refine HSE.out.mono ?_
    rintro e w8 ⟨B8,m8,d8,rfl,ho8,hb8⟩
    have HX8:=Hz (HX7.out.step hb8)
    have HO8:=Hz (own_mono ho8 HX7.out.bel.size)
    clear ho8 hb8
    go_wp2
    go_ret2
    exact⟨B8,m8,d8,rfl,HO8.out,HX8.out.bel⟩
end ImgP
namespace TabR
open Go.RowKit Kit NumA NumB
theorem end_ok (b:Nat) (w:World) (h:St w b [] 0) :
 Calls Tryz.prog 215 #[.pointer (some ⟨b,0,none⟩)] w fun e w'=>e=.returned (.int .i64 0)∧w=w':=by
 obtain⟨A,n,c,h,hr0,_⟩:=h
 have h0:=two0 h
 have h1:=two1 h
 obtain rfl:n=0:=by have:=Rd.bytes hr0;simpa using this.symm
 clear h hr0
 go_enter Tryz.func215,Tryz.ntmps215
 go_wp2
 go_ret
 exact⟨rfl,rfl⟩
theorem end_fault (b:Nat) (xs:List Int) (e:Int) (w:World) (h:St w b xs e) (he:(e != 0)=true) :
 Calls Tryz.prog 215 #[.pointer (some ⟨b,0,none⟩)] w fun f w'=>f=.returned (.int .i64 e)∧w=w':=by
 obtain⟨A,n,c,h,hr0,_⟩:=h
 have h1:=two1 h
 clear h hr0
 go_enter Tryz.func215,Tryz.ntmps215
 go_wp2
 go_ret
 exact⟨rfl,rfl⟩
theorem end_left (b:Nat) (xs:List Int) (w:World) (h:St w b xs 0) (hx:0<xs.length) :
 Calls Tryz.prog 215 #[.pointer (some ⟨b,0,none⟩)] w fun e w'=>e=.returned (.int .i64 2)∧w=w':=by
 obtain⟨A,n,c,h,hr0,_⟩:=h
 have h0:=two0 h
 have h1:=two1 h
 have hn:0<n:=by have:=Rd.bytes hr0;omega
 have hn2:n≤9223372036854775807:=by have:=hr0.2.1;have:=hr0.2.2.1;omega
 clear h hr0
 go_enter Tryz.func215,Tryz.ntmps215
 go_wp2
 go_ret
 exact⟨rfl,rfl⟩
theorem end_any (b:Nat) (xs:List Int) (e:Int) (w:World) (h:St w b xs e) :
 Calls Tryz.prog 215 #[.pointer (some ⟨b,0,none⟩)] w fun f w'=>f=.returned (.int .i64 (endN xs e))∧w=w':=by
 unfold endN
 by_cases he:e=0
 ·subst he
  rw [if_neg (by simp)]
  cases xs with
  | nil=>rw [if_pos rfl];exact end_ok b w h
  | cons x xs=>rw [if_neg (by simp)];exact end_left b _ w h (by simp)
 ·rw [if_pos he]
  exact end_fault b xs e w h (by simpa using he)
end TabR
namespace TxtR
open Go.RowKit Kit NumA NumB TabR
def Newer (w:World) (A:Option Addr) (n:Nat):Prop:=0<n→∀b o,A=some ⟨b,o,none⟩→w.heap.size≤b
theorem new_own {w w1 w2:World} {e:TypeId} {A:Option Addr} {n c:Nat} {xs:List Value} (h:w2.ownsRow w1.heap.size e 1 (.slice A n c) n xs) (hs:w.heap.size≤w1.heap.size):Newer w A n:=fun _ b o hA=>by
 have:=(h.lt b (by rw [hA];rfl)).1
 omega
def Gav (w:World) (b:Nat) (ys xs:List Int) (x:Int) (e:Ending) (w':World):Prop:=
 ∃A n c,e=.returned (.slice A n c)∧Rd w' A n c (u8s ys)∧St w' b xs x∧w.grownBy w' (some b)∧Newer w A n
theorem bytes_ok (b k:Nat) (xs:List Int) (w:World) (h:St w b xs 0) (hk:k≤xs.length) (hl:k≤100000000000000) :
 Calls Tryz.prog 237 #[.pointer (some ⟨b,0,none⟩),.int .i64 k] w (Gav w b (xs.take k) (xs.drop k) 0):=by
 have S:Hid (St w b xs 0):=h
 obtain⟨A,n,c,h,hr0,_⟩:=h
 have H:Hid (w.heap[b]?=some (.cells #[.slice A n c,.int .i64 0] 290 (0,0))):=h
 clear h hr0
 go_enter Tryz.func237,Tryz.ntmps237
 go_wp2_with (first
  | (go_at_call 235;refine (next_no _ _ _ _ _ H.out).mono ?_;rintro e w' ⟨rfl,rfl⟩)
  | (go_at_call 253;refine (goOn_ok b k xs w S.out hk).mono ?_;rintro e w1 ⟨A1,n1,c1,rfl,hr1,hs1,hd1⟩;have hn1:n1≤100000000000000:=by have:=Rd.bytes hr1;simp at this;omega)
  | (go_at_call 156;refine (clone_any _ _ _ _ _ hr1 hn1).mono ?_;rintro e w2 ⟨A2,n2,c2,hn2,rfl,hown2,hb2⟩))
 go_ret
 exact⟨A2,n2,c2,rfl,Rd.own hown2,St.below hs1 hb2,did_trans hd1 (did_below hb2 _),new_own hown2 hd1.size⟩
theorem bytes_short (b k:Nat) (xs:List Int) (w:World) (h:St w b xs 0) (hk:xs.length<k) (hl:k≤100000000000000) :
 Calls Tryz.prog 237 #[.pointer (some ⟨b,0,none⟩),.int .i64 k] w (Gav w b [] xs 1):=by
 have S:Hid (St w b xs 0):=h
 obtain⟨A,n,c,h,hr0,_⟩:=h
 have H:Hid (w.heap[b]?=some (.cells #[.slice A n c,.int .i64 0] 290 (0,0))):=h
 clear h hr0
 go_enter Tryz.func237,Tryz.ntmps237
 go_wp2_with (first
  | (go_at_call 235;refine (next_no _ _ _ _ _ H.out).mono ?_;rintro e w' ⟨rfl,rfl⟩)
  | (go_at_call 253;refine (goOn_short b k xs w S.out hk (by omega)).mono ?_;rintro e w1 ⟨A1,n1,c1,rfl,hr1,hs1,hd1⟩;have hn1:n1≤100000000000000:=by have:=Rd.bytes hr1;simp at this;omega)
  | (go_at_call 156;refine (clone_any _ _ _ _ _ hr1 hn1).mono ?_;rintro e w2 ⟨A2,n2,c2,hn2,rfl,hown2,hb2⟩))
 go_ret
 exact⟨A2,n2,c2,rfl,Rd.own hown2,St.below hs1 hb2,did_trans hd1 (did_below hb2 _),new_own hown2 hd1.size⟩
theorem bytes_fault (b:Nat) (x:Int) (xs:List Int) (e:Int) (w:World) (h:St w b xs e) (he:(e != 0)=true) :
 Calls Tryz.prog 237 #[.pointer (some ⟨b,0,none⟩),.int .i64 x] w (Gav w b [] xs e):=by
 have S:Hid (St w b xs e):=h
 obtain⟨A,n,c,h,hr0,_⟩:=h
 have H:Hid (w.heap[b]?=some (.cells #[.slice A n c,.int .i64 e] 290 (0,0))):=h
 clear h hr0
 go_enter Tryz.func237,Tryz.ntmps237
 go_wp2_with (first
  | (go_at_call 235;refine (next_yes _ _ _ _ _ _ H.out he).mono ?_;rintro e w' ⟨rfl,rfl⟩)
  | (go_at_call 252;refine (stay_any _ _ _).mono ?_;rintro e w' ⟨rfl,rfl⟩)
  | (go_at_call 156;refine (clone_any none 0 0 [] _ (Rd.nil _) (by omega)).mono ?_;rintro e w2 ⟨A2,n2,c2,hn2,rfl,hown2,hb2⟩))
 all_goals (go_ret;exact⟨A2,n2,c2,rfl,Rd.own hown2,St.below S.out hb2,did_below hb2 _,new_own hown2 (Nat.le_refl _)⟩)
theorem text_ok (b k most:Nat) (xs:List Int) (w:World) (h:St w b xs 0) (h2:2≤xs.length) (h8:∀u ∈ xs,0≤u∧u≤255) (hk:num (xs.take 2)=k) (hm:k≤most) (hl:2+k≤xs.length) (hkl:k≤100000000000000) :
 Calls Tryz.prog 214 #[.pointer (some ⟨b,0,none⟩),.int .i64 most] w (Gav w b ((xs.drop 2).take k) ((xs.drop 2).drop k) 0):=by
 have S:Hid (St w b xs 0):=h
 have HK:Hid (num (xs.take 2)=k):=hk
 have H8:Hid (∀u ∈ xs,0≤u∧u≤255):=h8
 clear h hk h8
 go_enter Tryz.func214,Tryz.ntmps214
 go_wp2_with (first
  | (go_at_call 213;refine (num_ok b 2 xs w S.out (by rw [wd_two];exact h2) H8.out).mono ?_;rw [wd_two,HK.out];rintro e w1 ⟨rfl,hs1,hd1⟩)
  | (go_at_call 237;refine (bytes_ok b k (xs.drop 2) _ hs1 (by simp;omega) hkl).mono ?_;rintro e w2 ⟨A2,n2,c2,rfl,hr2,hs2,hd2,hq2⟩))
 go_ret
 exact⟨A2,n2,c2,rfl,hr2,hs2,did_trans hd1 hd2,fun h b o hA=>Nat.le_trans hd1.size (hq2 h b o hA)⟩
theorem text_short1 (b most:Nat) (xs:List Int) (w:World) (h:St w b xs 0) (h2:xs.length<2) :
 Calls Tryz.prog 214 #[.pointer (some ⟨b,0,none⟩),.int .i64 most] w (Gav w b [] xs 1):=by
 have S:Hid (St w b xs 0):=h
 clear h
 go_enter Tryz.func214,Tryz.ntmps214
 go_wp2_with (first
  | (go_at_call 213;refine (num_short b 2 xs w S.out (by rw [wd_two];exact h2)).mono ?_;rintro e w1 ⟨rfl,hs1,hd1⟩)
  | (go_at_call 237;refine (bytes_fault b 0 xs 1 _ hs1 (by decide)).mono ?_;rintro e w2 ⟨A2,n2,c2,rfl,hr2,hs2,hd2,hq2⟩))
 go_ret
 exact⟨A2,n2,c2,rfl,hr2,hs2,did_trans hd1 hd2,fun h b o hA=>Nat.le_trans hd1.size (hq2 h b o hA)⟩
theorem text_short2 (b k most:Nat) (xs:List Int) (w:World) (h:St w b xs 0) (h2:2≤xs.length) (h8:∀u ∈ xs,0≤u∧u≤255) (hk:num (xs.take 2)=k) (hm:k≤most) (hl:xs.length<2+k) (hkl:k≤100000000000000) :
 Calls Tryz.prog 214 #[.pointer (some ⟨b,0,none⟩),.int .i64 most] w (Gav w b [] (xs.drop 2) 1):=by
 have S:Hid (St w b xs 0):=h
 have HK:Hid (num (xs.take 2)=k):=hk
 have H8:Hid (∀u ∈ xs,0≤u∧u≤255):=h8
 clear h hk h8
 go_enter Tryz.func214,Tryz.ntmps214
 go_wp2_with (first
  | (go_at_call 213;refine (num_ok b 2 xs w S.out (by rw [wd_two];exact h2) H8.out).mono ?_;rw [wd_two,HK.out];rintro e w1 ⟨rfl,hs1,hd1⟩)
  | (go_at_call 237;refine (bytes_short b k (xs.drop 2) _ hs1 (by simp;omega) hkl).mono ?_;rintro e w2 ⟨A2,n2,c2,rfl,hr2,hs2,hd2,hq2⟩))
 go_ret
 exact⟨A2,n2,c2,rfl,hr2,hs2,did_trans hd1 hd2,fun h b o hA=>Nat.le_trans hd1.size (hq2 h b o hA)⟩
theorem text_fault (b most:Nat) (xs:List Int) (e:Int) (w:World) (h:St w b xs e) (he:(e != 0)=true) :
 Calls Tryz.prog 214 #[.pointer (some ⟨b,0,none⟩),.int .i64 most] w (Gav w b [] xs e):=by
 have S:Hid (St w b xs e):=h
 clear h
 go_enter Tryz.func214,Tryz.ntmps214
 go_wp2_with (first
  | (go_at_call 213;refine (num_fault b 2 xs e w S.out he).mono ?_;rintro e w1 ⟨rfl,hs1,hd1⟩)
  | (go_at_call 237;refine (bytes_fault b 0 xs e _ hs1 he).mono ?_;rintro e w2 ⟨A2,n2,c2,rfl,hr2,hs2,hd2,hq2⟩))
 go_ret
 exact⟨A2,n2,c2,rfl,hr2,hs2,did_trans hd1 hd2,fun h b o hA=>Nat.le_trans hd1.size (hq2 h b o hA)⟩
def rtx (xs:List Int) (e:Int):List Int×List Int×Int:=
 if e≠0 then ([],xs,e) else if xs.length<2 then ([],xs,1) else if 2+(num (xs.take 2)).toNat≤xs.length then ((xs.drop 2).take (num (xs.take 2)).toNat,(xs.drop 2).drop (num (xs.take 2)).toNat,0) else ([],xs.drop 2,1)
theorem num_two {xs:List Int} (h2:2≤xs.length) (h8:∀u ∈ xs,0≤u∧u≤255):0≤num (xs.take 2)∧num (xs.take 2)≤65535:=by
 match xs,h2 with
 | x :: y :: zs,_=>
   have h1:=h8 x (by simp)
   have h2:=h8 y (by simp)
   simp [num]
   omega
theorem text_any (b:Nat) (xs:List Int) (e:Int) (w:World) (h:St w b xs e) (h8:∀u ∈ xs,0≤u∧u≤255) :
 Calls Tryz.prog 214 #[.pointer (some ⟨b,0,none⟩),.int .i64 65535] w (Gav w b (rtx xs e).1 (rtx xs e).2.1 (rtx xs e).2.2):=by
 unfold rtx
 by_cases he:e=0
 ·subst he
  rw [if_neg (by simp)]
  by_cases h2:xs.length<2
  ·rw [if_pos h2]
   exact text_short1 b 65535 xs w h h2
  ·rw [if_neg h2]
   have hb:=num_two (by omega) h8
   have hk:num (xs.take 2)=((num (xs.take 2)).toNat:Int):=by omega
   by_cases hl:2+(num (xs.take 2)).toNat≤xs.length
   ·rw [if_pos hl]
    exact text_ok b _ 65535 xs w h (by omega) h8 hk (by omega) hl (by omega)
   ·rw [if_neg hl]
    exact text_short2 b _ 65535 xs w h (by omega) h8 hk (by omega) (by omega) (by omega)
 ·rw [if_pos he]
  exact text_fault b 65535 xs e w h (by simpa using he)
theorem cl_lt (k:Nat) (n:Int):cl k n<2 ^ (8*k):=by have:=pow_pos' k;unfold cl;omega
theorem dig_next {k j m:Nat} (hj:j<k):m/2 ^ (8*(k-(j+1)))=256*(m/2 ^ (8*(k-j)))+m/2 ^ (8*(k-1-j))%256:=by
 have e1:k-(j+1)=k-1-j:=by omega
 have e2:8*(k-j)=8*(k-1-j)+8:=by omega
 rw [e1,e2,Nat.pow_add,←Nat.div_div_eq_div_mul]
 omega
theorem num_take {k m:Nat} (hm:m<2 ^ (8*k)):∀j,j≤k→num ((be k m).take j)=((m/2 ^ (8*(k-j)):Nat):Int)
 | 0,_=>by
   rw [Nat.sub_zero,Nat.div_eq_of_lt hm]
   rfl
 | j+1,h=>by
   have hl:j<(be k m).length:=by rw [be_len];omega
   rw [num_next hl,num_take hm j (by omega),dig_next (by omega)]
   simp only [be,List.getElem_map,List.getElem_range]
   omega
theorem num_be {k m:Nat} (hm:m<2 ^ (8*k)):num (be k m)=m:=by
 have h:=num_take hm k (Nat.le_refl _)
 rw [List.take_of_length_le (by rw [be_len];omega),Nat.sub_self,Nat.mul_zero,Nat.pow_zero,Nat.div_one] at h
 exact h
theorem num_putb (n x:Int):num (putb n x)=(cl (wd x) n:Nat):=num_be (cl_lt _ _)
theorem rdN_put {k:Nat} {q x:Int} (hk:wd q=k) (h0:0≤x) (h1:x≤((2 ^ (8*k)-1:Nat):Int)) (ys:List Int):rdN k (putb x q++ys) 0=(x,ys,0):=by
 have hl:(putb x q).length=k:=by rw [putb_len,hk]
 have hn:num (putb x q)=x:=by rw [num_putb,hk];unfold cl;omega
 unfold rdN
 rw [if_neg (by simp),if_pos (by simp [hl])]
 rw [List.take_left' hl,List.drop_left' hl,hn]
theorem rdN_p1 {x:Int} (h0:0≤x) (h1:x≤255) (ys:List Int):rdN 1 (putb x 1++ys) 0=(x,ys,0):=rdN_put (k:=1) (q:=1) rfl h0 (by have h:((2 ^ (8*1)-1:Nat):Int)=255:=rfl;rw [h];exact h1) ys
theorem rdN_p2 {x:Int} (h0:0≤x) (h1:x≤65535) (ys:List Int):rdN 2 (putb x 2++ys) 0=(x,ys,0):=rdN_put (k:=2) (q:=2) rfl h0 (by have h:((2 ^ (8*2)-1:Nat):Int)=65535:=rfl;rw [h];exact h1) ys
theorem rtx_put {cs:List Int} (h1:cs.length≤65535):rtx (putb (cs.length:Int) 2++cs) 0=(cs,[],0):=by
 have hl:(putb (cs.length:Int) 2).length=2:=by rw [putb_len];rfl
 have hn:num (putb (cs.length:Int) 2)=(cs.length:Int):=by
  rw [num_putb]
  have h2:wd 2=2:=rfl
  rw [h2]
  unfold cl
  have h:(2:Nat) ^ (8*2)-1=65535:=rfl
  rw [h];omega
 unfold rtx
 rw [List.take_left' hl,hn,List.drop_left' hl]
 simp [hl]
end TxtR
namespace ImgT
open Go.RowKit Kit Byt Beq ShaM ShaE TabR TxtR ImgS
structure Ig where
 (p v h m f s r:Int)
 xs:List Nat
 e:Int
def Ig.no (e:Int):Ig:=⟨0,0,0,0,0,0,0,[],e⟩
def Ig.right (i:Ig):Prop:=(0≤i.p∧i.p≤3)∧(1≤i.v∧i.v≤65535)∧(0≤i.h∧i.h≤65535)∧(1≤i.m∧i.m≤16)∧(1≤i.f∧i.f≤32)∧(0≤i.s∧i.s≤15)∧(0≤i.r∧i.r≤15)∧(1≤(i.xs.length:Int)∧(i.xs.length:Int)≤96)
instance (i:Ig):Decidable i.right:=by unfold Ig.right;infer_instance
def q1 (z:List Nat):=rdN 1 (nl z) 0
def q2 (z:List Nat):=rdN 2 (q1 z).2.1 (q1 z).2.2
def q3 (z:List Nat):=rdN 2 (q2 z).2.1 (q2 z).2.2
def q4 (z:List Nat):=rdN 1 (q3 z).2.1 (q3 z).2.2
def q5 (z:List Nat):=rdN 1 (q4 z).2.1 (q4 z).2.2
def q6 (z:List Nat):=rdN 1 (q5 z).2.1 (q5 z).2.2
def q7 (z:List Nat):=rdN 1 (q6 z).2.1 (q6 z).2.2
def q8 (z:List Nat):=rtx (q7 z).2.1 (q7 z).2.2
def rdI (z:List Nat):Ig:=⟨(q1 z).1,(q2 z).1,(q3 z).1,(q4 z).1,(q5 z).1,(q6 z).1,(q7 z).1,(q8 z).1.map Int.toNat,endN (q8 z).2.1 (q8 z).2.2⟩
def iG (ys:List Nat):Ig:=
 if ys.length<36 then Ig.no 1 else if ys≠closed (ys.take (ys.length-36)) then Ig.no 10 else if (ys.take (ys.length-36)).take 2≠[76,73] then Ig.no 2
 else if (rdI ((ys.take (ys.length-36)).drop 2)).e≠0 then Ig.no (rdI ((ys.take (ys.length-36)).drop 2)).e
 else if (rdI ((ys.take (ys.length-36)).drop 2)).right then rdI ((ys.take (ys.length-36)).drop 2) else Ig.no 3
theorem nl_bytes {z:List Nat} (h:by256 z):∀u ∈ nl z,0≤u∧u≤255:=by
 intro u hu
 simp only [nl,List.mem_map] at hu
 obtain⟨q,hq,rfl⟩:=hu
 have:=h q hq
 omega
theorem rtx_bytes {xs:List Int} {e:Int} (h:∀u ∈ xs,0≤u∧u≤255):∀u ∈ (rtx xs e).1,0≤u∧u≤255:=by
 unfold rtx
 repeat' split
 ·exact fun u hu=>by cases hu
 ·exact fun u hu=>by cases hu
 ·exact fun u hu=>h u (List.mem_of_mem_drop (List.mem_of_mem_take hu))
 ·exact fun u hu=>by cases hu
theorem q_bytes {z:List Nat} (h:by256 z):(∀u ∈ (q1 z).2.1,0≤u∧u≤255)∧(∀u ∈ (q2 z).2.1,0≤u∧u≤255)∧(∀u ∈ (q3 z).2.1,0≤u∧u≤255)∧(∀u ∈ (q4 z).2.1,0≤u∧u≤255)∧(∀u ∈ (q5 z).2.1,0≤u∧u≤255)∧(∀u ∈ (q6 z).2.1,0≤u∧u≤255)∧(∀u ∈ (q7 z).2.1,0≤u∧u≤255)∧(∀u ∈ (q8 z).1,0≤u∧u≤255):=by
 have h1:∀u ∈ (q1 z).2.1,0≤u∧u≤255:=rdN_bytes (nl_bytes h)
 have h2:∀u ∈ (q2 z).2.1,0≤u∧u≤255:=rdN_bytes h1
 have h3:∀u ∈ (q3 z).2.1,0≤u∧u≤255:=rdN_bytes h2
 have h4:∀u ∈ (q4 z).2.1,0≤u∧u≤255:=rdN_bytes h3
 have h5:∀u ∈ (q5 z).2.1,0≤u∧u≤255:=rdN_bytes h4
 have h6:∀u ∈ (q6 z).2.1,0≤u∧u≤255:=rdN_bytes h5
 have h7:∀u ∈ (q7 z).2.1,0≤u∧u≤255:=rdN_bytes h6
 exact⟨h1,h2,h3,h4,h5,h6,h7,rtx_bytes h7⟩
theorem q8_nl {z:List Nat} (h:by256 z):(q8 z).1=nl ((q8 z).1.map Int.toNat):=by
 have h8:=(q_bytes h).2.2.2.2.2.2.2
 unfold nl
 rw [List.map_map]
 conv=>lhs;rw [←List.map_id (q8 z).1]
 refine List.map_congr_left fun u hu=>?_
 have:=h8 u hu
 show u=((u.toNat:Nat):Int)
 omega
theorem q8_lt {z:List Nat} (h:by256 z):by256 ((q8 z).1.map Int.toNat):=by
 intro c hc
 obtain⟨u,hu,rfl⟩:=List.mem_map.1 hc
 have:=(q_bytes h).2.2.2.2.2.2.2 u hu
 omega
theorem rdN_len {k:Nat} {xs:List Int} {e:Int}:(rdN k xs e).2.1.length≤xs.length:=by
 unfold rdN
 repeat' split
 ·exact Nat.le_refl _
 ·rw [List.length_drop];omega
 ·exact Nat.le_refl _
theorem rtx_len {xs:List Int} {e:Int}:(rtx xs e).1.length≤xs.length:=by
 unfold rtx
 repeat' split
 ·exact Nat.zero_le _
 ·exact Nat.zero_le _
 ·rw [List.length_take,List.length_drop];omega
 ·exact Nat.zero_le _
theorem q8_len (z:List Nat):(q8 z).1.length≤z.length:=by
 have h:(nl z).length=z.length:=by simp [nl]
 rw [←h]
 exact Nat.le_trans rtx_len (Nat.le_trans rdN_len (Nat.le_trans rdN_len (Nat.le_trans rdN_len (Nat.le_trans rdN_len (Nat.le_trans rdN_len (Nat.le_trans rdN_len rdN_len))))))
theorem endN_02 (xs:List Int) {e:Int} (h:e=0∨e=1):endN xs e=0∨endN xs e=1∨endN xs e=2:=by
 unfold endN
 repeat' split
 all_goals omega
theorem rdN_01 {k:Nat} {xs:List Int} {e:Int} (h:e=0∨e=1):(rdN k xs e).2.2=0∨(rdN k xs e).2.2=1:=by
 unfold rdN
 repeat' split
 ·exact h
 ·exact .inl rfl
 ·exact .inr rfl
theorem rtx_01 {xs:List Int} {e:Int} (h:e=0∨e=1):(rtx xs e).2.2=0∨(rtx xs e).2.2=1:=by
 unfold rtx
 repeat' split
 ·exact h
 ·exact .inr rfl
 ·exact .inl rfl
 ·exact .inr rfl
theorem q8_01 (z:List Nat):(q8 z).2.2=0∨(q8 z).2.2=1:=rtx_01 (rdN_01 (rdN_01 (rdN_01 (rdN_01 (rdN_01 (rdN_01 (rdN_01 (.inl rfl))))))))
theorem rdI_e (z:List Nat):(rdI z).e=0∨(rdI z).e=1∨(rdI z).e=2:=endN_02 _ (q8_01 z)
theorem iG_ok {ys:List Nat} (h:(iG ys).e=0):(iG ys).right∧ys=closed (ys.take (ys.length-36))∧iG ys=rdI ((ys.take (ys.length-36)).drop 2):=by
 unfold iG at h ⊢
 by_cases h1:ys.length<36
 ·rw [if_pos h1] at h;exact absurd h (by decide)
 rw [if_neg h1] at h ⊢
 by_cases h2:ys≠closed (ys.take (ys.length-36))
 ·rw [if_pos h2] at h;exact absurd h (by decide)
 rw [if_neg h2] at h ⊢
 by_cases h3:(ys.take (ys.length-36)).take 2≠[76,73]
 ·rw [if_pos h3] at h;exact absurd h (by decide)
 rw [if_neg h3] at h ⊢
 by_cases h4:(rdI ((ys.take (ys.length-36)).drop 2)).e≠0
 ·rw [if_pos h4] at h;exact absurd h h4
 rw [if_neg h4] at h ⊢
 by_cases h5:(rdI ((ys.take (ys.length-36)).drop 2)).right
 ·rw [if_pos h5] at h ⊢
  exact⟨h5,Classical.byContradiction fun e=>h2 e,rfl⟩
 ·rw [if_neg h5] at h;exact absurd h (by decide)
end ImgT
namespace StoV
open Go.RowKit Kit Byt Mem DskA DskB DskD DskE DskF RecM BitM BitA BitB BitC StgM StgP StgQ CmtM Put2 StoM ImgT
structure Dc where
 O:Nat→Ow
 I:Nat→Nat→Ig
structure Da where
 k:Nat
 (p n z no:Int)
 d:List Nat
def sl (i:Int):Nat:=i.toNat
section
variable (n:Nat) (T:Int) (chk:Nat→Ig→Int→Int)
def dfr (D:Dc) (p:Int):Int:=if p<0∨(n:Int)≤p then 3 else if (D.O p.toNat).r.a≠(D.O p.toNat).r.c then 18 else 0
def dslot (D:Dc) (p:Nat) (c:Sa):Dc×Int:=
 ({ D with O:=upd D.O p { D.O p with x:=upd (D.O p).x (spr (D.O p)) (dA ((D.O p).x (spr (D.O p))) c).1 } },(dA ((D.O p).x (spr (D.O p))) c).2)
def dbg (D:Dc) (p ses:Int):Int:=if dfr n D p≠0 then dfr n D p else if ((D.O p.toNat).x (spr (D.O p.toNat))).has=false then 16 else if ((D.O p.toNat).x (spr (D.O p.toNat))).g.s≠ses then 17 else 0
def dsave (D:Dc) (p:Nat) (r:Rc):Dc×Int:=({ D with O:=upd D.O p { D.O p with r:=(nx (D.O p).r r).1 } },(nx (D.O p).r r).2)
def sealR (D:Dc) (p:Nat):Rc:={ (D.O p).r with a:=(spr (D.O p):Nat),l:=T,b:=0 }
def bootR (r:Rc):Rc:=if r.l=0 then { r with b:=1+r.a,a:=r.c } else { r with l:=r.l-1 }
def confR (r:Rc):Rc:={ r with c:=r.a,l:=0,b:=0 }
def got (D:Dc) (p:Nat):List Nat×Int:=rY ((D.O p).x (spr (D.O p)))
def sealD (D:Dc) (p:Nat):Dc:=⟨upd D.O p { D.O p with r:=(nx (D.O p).r (sealR T D p)).1 },upd D.I p (upd (D.I p) (spr (D.O p)) (iG (got D p).1))⟩
def dseal (D:Dc) (p:Int) (ses:Int):Dc×Int:=
 if dbg n D p ses≠0 then (D,dbg n D p ses)
 else if (got D p.toNat).2≠0 then (D,(got D p.toNat).2)
 else if (iG (got D p.toNat).1).e≠0 then (D,(iG (got D p.toNat).1).e)
 else if chk p.toNat (iG (got D p.toNat).1) (D.I p.toNat (sl (D.O p.toNat).r.a)).v≠0 then (D,chk p.toNat (iG (got D p.toNat).1) (D.I p.toNat (sl (D.O p.toNat).r.a)).v)
 else if (nx (D.O p.toNat).r (sealR T D p.toNat)).2=0 then (sealD T D p.toNat,0)
 else (D,(nx (D.O p.toNat).r (sealR T D p.toNat)).2)
def dDo (D:Dc) (a:Da):Dc×Int:=
 if a.k=0 then (if dfr n D a.p≠0 then (D,dfr n D a.p) else dslot D a.p.toNat ⟨0,a.n,a.z,0,[]⟩)
 else if a.k=1 then (if dfr n D a.p≠0 then (D,dfr n D a.p) else dslot D a.p.toNat ⟨1,a.n,0,a.no,a.d⟩)
 else if a.k=2 then dseal n T chk D a.p a.n
 else if a.k=3 then (if dbg n D a.p a.n≠0 then (D,dbg n D a.p a.n) else dslot D a.p.toNat ⟨2,0,0,0,[]⟩)
 else if a.k=4 then (if a.p<0∨(n:Int)≤a.p then (D,3) else if (D.O a.p.toNat).r.a=(D.O a.p.toNat).r.c then (D,0) else dsave D a.p.toNat (bootR (D.O a.p.toNat).r))
 else (if a.p<0∨(n:Int)≤a.p then (D,3) else if (D.O a.p.toNat).r.a=(D.O a.p.toNat).r.c then (D,16) else dsave D a.p.toNat (confR (D.O a.p.toNat).r))
structure Hold (D:Dc) (p k:Nat):Prop where
 got:(rY ((D.O p).x k)).2=0
 is:iG (rY ((D.O p).x k)).1=D.I p k
 ok:(D.I p k).e=0
 fit:chk p (D.I p k) 0=0
def DI (D:Dc):Prop:=∀p,p<n→Hold chk D p (sl (D.O p).r.a)∧Hold chk D p (sl (D.O p).r.c)
end
section
variable {n:Nat} {T:Int} {chk:Nat→Ig→Int→Int} {D:Dc} {p k:Nat}
theorem dfr_0 {q:Int} (h:dfr n D q=0):∃p:Nat,q=p∧p<n∧(D.O p).r.a=(D.O p).r.c:=by
 unfold dfr at h
 by_cases h1:q<0∨(n:Int)≤q
 ·rw [if_pos h1] at h;exact absurd h (by decide)
 rw [if_neg h1] at h
 by_cases h2:(D.O q.toNat).r.a≠(D.O q.toNat).r.c
 ·rw [if_pos h2] at h;exact absurd h (by decide)
 exact⟨q.toNat,by omega,by omega,Classical.byContradiction h2⟩
theorem spr_ne {o:Ow} (hc:0≤o.r.c∧o.r.c≤1):sl o.r.c≠spr o:=by
 unfold sl spr
 split <;> omega
theorem Hold.far {D':Dc} (h:Hold chk D p k) (hx:(D'.O p).x k=(D.O p).x k) (hi:D'.I p k=D.I p k):Hold chk D' p k:=
 ⟨by rw [hx];exact h.got,by rw [hx,hi];exact h.is,by rw [hi];exact h.ok,by rw [hi];exact h.fit⟩
theorem di_slot (h:DI n chk D) (hw:∀p,p<n→Okw p (D.O p)) (hp:p<n) (ha:(D.O p).r.a=(D.O p).r.c) (c:Sa):DI n chk (dslot D p c).1:=by
 intro q hq
 have hc:=(hw p hp).right.1.2.2.2
 have h1:=h q hq
 by_cases e:q=p
 ·subst e
  have hO:(dslot D q c).1.O q = { D.O q with x:=upd (D.O q).x (spr (D.O q)) (dA ((D.O q).x (spr (D.O q))) c).1 }:=upd_at _ _ _
  have hn:=spr_ne hc
  have hx:∀k,k≠spr (D.O q)→((dslot D q c).1.O q).x k=(D.O q).x k:=fun k hk=>by rw [hO];exact upd_ne _ _ hk
  have hr:((dslot D q c).1.O q).r=(D.O q).r:=by rw [hO]
  rw [hr]
  exact⟨h1.1.far (hx _ (by rw [ha];exact hn)) rfl,h1.2.far (hx _ hn) rfl⟩
 ·have hO:(dslot D p c).1.O q=D.O q:=upd_ne _ _ e
  rw [hO]
  exact⟨h1.1.far (by rw [hO]) rfl,h1.2.far (by rw [hO]) rfl⟩
theorem di_save (h:DI n chk D) (hp:p<n) (r:Rc) (ha:(nx (D.O p).r r).2=0→Hold chk D p (sl r.a)) (hc:(nx (D.O p).r r).2=0→Hold chk D p (sl r.c)):DI n chk (dsave D p r).1:=by
 intro q hq
 have h1:=h q hq
 by_cases e:q=p
 ·subst e
  have hO:(dsave D q r).1.O q = { D.O q with r:=(nx (D.O q).r r).1 }:=upd_at _ _ _
  have hx:∀k,((dsave D q r).1.O q).x k=(D.O q).x k:=fun k=>by rw [hO]
  have hr:((dsave D q r).1.O q).r=(nx (D.O q).r r).1:=by rw [hO]
  rw [hr]
  rcases nx_cases (D.O q).r r with⟨e0,e1,_⟩|⟨_,e1⟩
  ·rw [e1]
   exact⟨(ha e0).far (hx _) rfl,(hc e0).far (hx _) rfl⟩
  ·rw [e1]
   exact⟨h1.1.far (hx _) rfl,h1.2.far (hx _) rfl⟩
 ·have hO:(dsave D p r).1.O q=D.O q:=upd_ne _ _ e
  rw [hO]
  exact⟨h1.1.far (by rw [hO]) rfl,h1.2.far (by rw [hO]) rfl⟩
theorem di_boot (h:DI n chk D) (hp:p<n):DI n chk (dsave D p (bootR (D.O p).r)).1:=by
 have h1:=h p hp
 refine di_save h hp _ (fun _=>?_) (fun _=>?_)
 ·unfold bootR
  split
  ·exact h1.2
  ·exact h1.1
 ·unfold bootR
  split
  ·exact h1.2
  ·exact h1.2
theorem di_conf (h:DI n chk D) (hp:p<n):DI n chk (dsave D p (confR (D.O p).r)).1:=
 di_save h hp _ (fun _=>(h p hp).1) (fun _=>(h p hp).1)
theorem dbg_0 {q ses:Int} (h:dbg n D q ses=0):dfr n D q=0:=by
 unfold dbg at h
 by_cases h1:dfr n D q≠0
 ·rw [if_pos h1] at h;exact h
 ·exact Classical.byContradiction h1
theorem di_seal (hchk:∀p i v,0≤v→chk p i v=0→chk p i 0=0) (h:DI n chk D) (hw:∀p,p<n→Okw p (D.O p)) (q ses:Int):DI n chk (dseal n T chk D q ses).1:=by
 unfold dseal
 by_cases h1:dbg n D q ses≠0
 ·rw [if_pos h1];exact h
 rw [if_neg h1]
 by_cases h2:(got D q.toNat).2≠0
 ·rw [if_pos h2];exact h
 rw [if_neg h2]
 by_cases h3:(iG (got D q.toNat).1).e≠0
 ·rw [if_pos h3];exact h
 rw [if_neg h3]
 by_cases h4:chk q.toNat (iG (got D q.toNat).1) (D.I q.toNat (sl (D.O q.toNat).r.a)).v≠0
 ·rw [if_pos h4];exact h
 rw [if_neg h4]
 by_cases h5:(nx (D.O q.toNat).r (sealR T D q.toNat)).2=0
 ·rw [if_pos h5]
  obtain⟨p,rfl,hp,ha⟩:=dfr_0 (dbg_0 (Classical.byContradiction h1))
  rw [show ((p:Int)).toNat=p from by omega] at h2 h3 h4 h5 ⊢
  have hc:=(hw p hp).right.1.2.2.2
  have hn:=spr_ne hc
  have hv:0≤(D.I p (sl (D.O p).r.a)).v:=by
   have h6:=(h p hp).1
   have h7:=iG_ok (ys:=(rY ((D.O p).x (sl (D.O p).r.a))).1) (by rw [h6.is];exact h6.ok)
   rw [h6.is] at h7
   have:=h7.1.2.1.1
   omega
  intro r hr
  show Hold chk (sealD T D p) r (sl ((sealD T D p).O r).r.a)∧Hold chk (sealD T D p) r (sl ((sealD T D p).O r).r.c)
  by_cases e:r=p
  ·subst e
   have e1:(nx (D.O r).r (sealR T D r)).1=nextR (D.O r).r (sealR T D r):=by
    rcases nx_cases (D.O r).r (sealR T D r) with⟨_,e1,_⟩|⟨e34,_⟩
    ·exact e1
    ·omega
   have hO:(sealD T D r).O r = { D.O r with r:=(nx (D.O r).r (sealR T D r)).1 }:=upd_at _ _ _
   have hx:∀k,((sealD T D r).O r).x k=(D.O r).x k:=fun k=>by rw [hO]
   have hI:(sealD T D r).I r=upd (D.I r) (spr (D.O r)) (iG (got D r).1):=upd_at _ _ _
   have hr2:((sealD T D r).O r).r=nextR (D.O r).r (sealR T D r):=by rw [hO];exact e1
   rw [hr2]
   have ea:sl (nextR (D.O r).r (sealR T D r)).a=spr (D.O r):=by show ((spr (D.O r):Nat):Int).toNat=_;omega
   rw [ea]
   refine⟨⟨?_,?_,?_,?_⟩,?_⟩
   ·rw [hx];exact Classical.byContradiction h2
   ·rw [hx,hI,upd_at];rfl
   ·rw [hI,upd_at];exact Classical.byContradiction h3
   ·rw [hI,upd_at];exact hchk _ _ _ hv (Classical.byContradiction h4)
   ·exact (h r hr).2.far (hx _) (by rw [hI];exact upd_ne _ _ hn)
  ·have hO:(sealD T D p).O r=D.O r:=upd_ne _ _ e
   have hI:(sealD T D p).I r=D.I r:=upd_ne _ _ e
   rw [hO]
   have h6:=h r hr
   exact⟨h6.1.far (by rw [hO]) (by rw [hI]),h6.2.far (by rw [hO]) (by rw [hI])⟩
 ·rw [if_neg h5];exact h
theorem di_do (hchk:∀p i v,0≤v→chk p i v=0→chk p i 0=0) (h:DI n chk D) (hw:∀p,p<n→Okw p (D.O p)) (a:Da):DI n chk (dDo n T chk D a).1:=by
 have hs:∀c:Sa,dfr n D a.p=0→DI n chk (dslot D a.p.toNat c).1:=fun c h0=>by
  obtain⟨p,e,hp,ha⟩:=dfr_0 h0
  rw [e,show ((p:Int)).toNat=p from by omega]
  exact di_slot h hw hp ha c
 unfold dDo
 by_cases k0:a.k=0
 ·rw [if_pos k0]
  by_cases h0:dfr n D a.p≠0
  ·rw [if_pos h0];exact h
  ·rw [if_neg h0];exact hs _ (Classical.byContradiction h0)
 rw [if_neg k0]
 by_cases k1:a.k=1
 ·rw [if_pos k1]
  by_cases h0:dfr n D a.p≠0
  ·rw [if_pos h0];exact h
  ·rw [if_neg h0];exact hs _ (Classical.byContradiction h0)
 rw [if_neg k1]
 by_cases k2:a.k=2
 ·rw [if_pos k2];exact di_seal hchk h hw _ _
 rw [if_neg k2]
 by_cases k3:a.k=3
 ·rw [if_pos k3]
  by_cases h0:dbg n D a.p a.n≠0
  ·rw [if_pos h0];exact h
  ·rw [if_neg h0];exact hs _ (dbg_0 (Classical.byContradiction h0))
 rw [if_neg k3]
 by_cases k4:a.k=4
 ·rw [if_pos k4]
  by_cases h0:a.p<0∨(n:Int)≤a.p
  ·rw [if_pos h0];exact h
  rw [if_neg h0]
  split
  ·exact h
  ·exact di_boot h (by omega)
 ·rw [if_neg k4]
  by_cases h0:a.p<0∨(n:Int)≤a.p
  ·rw [if_pos h0];exact h
  rw [if_neg h0]
  split
  ·exact h
  ·exact di_conf h (by omega)
end
end StoV
namespace StoE
open Go.RowKit Kit Byt Mem RecM StgM ImgT StoM StoV StoA
open RecA (rval rcells rok n64 sok)
open StgA (hd)
inductive Rl
 | out
 | data
 | head
 | list
 | slots (p:Nat)
 | imgs (p:Nat)
 | row (p k:Nat)
structure Mm where
 lb:Nat
 lc:Nat
 LC:List Value
 sb:Nat→Nat
 sc:Nat→Nat
 SC:Nat→List Value
 ib:Nat→Nat
 ic:Nat→Nat
 IC:Nat→List Value
def ocs (r:Rc) (sb sc ib ic:Nat):List Value:=[.int .i64 r.p,.int .i64 r.q,.int .i64 r.a,.int .i64 r.c,.int .i64 r.l,.int .i64 r.b,.slice (some ⟨sb,0,none⟩) 2 sc,.slice (some ⟨ib,0,none⟩) 2 ic]
def igc (i:Ig) (A:Option Addr) (n c:Nat):List Value:=[.int .i64 i.p,.int .i64 i.v,.int .i64 i.h,.int .i64 i.m,.int .i64 i.f,.int .i64 i.s,.int .i64 i.r,.slice A n c]
def sH (ρ:Nat→Rl) (p k:Nat) (i:Nat):Prop:=ρ i=.slots p∨ρ i=.row p k
def isD (ρ:Nat→Rl) (i:Nat):Prop:=ρ i=.data
def isO (ρ:Nat→Rl) (i:Nat):Prop:=ρ i≠.out
structure RSt (w:World) (ρ:Nat→Rl) (b:Nat) (tb:List Value) (n:Nat) (D:Dc) (M:Mm):Prop where
 head:Blk w b 90 (tb++[.slice (some ⟨M.lb,0,none⟩) n M.lc])
 tb5:tb.length=5
 list:Blk w M.lb 87 M.LC
 n4:n≤4∧n≤M.lc∧M.lc≤9223372036854775807
 own:∀p,p<n→p*8+8≤M.LC.length∧∀i v,(ocs (D.O p).r (M.sb p) (M.sc p) (M.ib p) (M.ic p))[i]?=some v→M.LC[p*8+i]?=some v
 caps:∀p,p<n→2≤M.sc p∧M.sc p≤9223372036854775807∧2≤M.ic p∧M.ic p≤9223372036854775807
 slot:∀p,p<n→∀k,k≤1→ROl w (sH ρ p k) (isD ρ) (M.sb p) (k*5) (M.SC p) ((D.O p).x k)
 imgs:∀p,p<n→Blk w (M.ib p) 54 (M.IC p)∧16≤(M.IC p).length
 img:∀p,p<n→∀k,k≤1→∃A m c,(∀i v,(igc (D.I p k) A m c)[i]?=some v→(M.IC p)[k*8+i]?=some v)∧Rd w A m c (u8n (D.I p k).xs)∧(0<m→∀q o,A=some ⟨q,o,none⟩→ρ q=.data)
 rb:ρ b=.head
 rl:ρ M.lb=.list
 rs:∀p,p<n→ρ (M.sb p)=.slots p
 ri:∀p,p<n→ρ (M.ib p)=.imgs p
 us:∀i p,ρ i=.slots p→i=M.sb p
 lt:∀i,isO ρ i→i<w.heap.size
end StoE
namespace StoF
open Go.RowKit Kit Byt Mem RecM StgM ImgT StoM StoV StoA StoE
open StgA (hd)
theorem hd_len (x:Rf) (A:Option Addr) (n c:Nat):(hd x A n c).length=5:=rfl
theorem spl_out {α:Type} {C h:List α} {o j:Nat} (hf:o+h.length≤C.length) (hj:j<o∨o+h.length≤j):(splice C o h)[j]?=C[j]?:=by
 unfold splice
 rcases hj with hj|hj
 ·rw [List.getElem?_append_left (by rw [List.length_take];omega),List.getElem?_take,if_pos hj]
 ·rw [List.getElem?_append_right (by rw [List.length_take];omega),List.length_take,List.getElem?_append_right (by omega),List.getElem?_drop]
  congr 1
  omega
theorem spl_same {α:Type} {C h:List α} {o:Nat} (hf:o+h.length≤C.length) (hs:∀i v,h[i]?=some v→C[o+i]?=some v):splice C o h=C:=by
 apply List.ext_getElem?
 intro j
 by_cases hj:j<o∨o+h.length≤j
 ·exact spl_out hf hj
 ·have hi:j-o<h.length:=by omega
  have h1:=spl_get (i:=j-o) hf (List.getElem?_eq_getElem hi)
  have h2:=hs (j-o) _ (List.getElem?_eq_getElem hi)
  rw [show o+(j-o)=j from by omega] at h1 h2
  rw [h1,h2]
section
variable {w w':World} {H N H2 N2 G:Nat→Prop} {b o n c:Nat} {C:List Value} {x:Rf} {E:List Sl} {A:Option Addr}
theorem RO.mono (h:RO w H N b o C x E A n c) (hH:∀i,H i→H2 i) (hN:∀i,N i→N2 i) (l1:∀i,H2 i→i<w.heap.size) (l2:∀i,N2 i→i<w.heap.size) (d:∀i,H2 i→¬N2 i):RO w H2 N2 b o C x E A n c:=
 ⟨h.head,h.fit,h.own,h.bl,fun e he=>⟨(h.ent e he).1,fun q o hA=>hN q ((h.ent e he).2 q o hA)⟩,hH _ h.ha,fun k hk=>⟨hH k (h.ho k hk).1,(h.ho k hk).2⟩,l1,l2,d⟩
theorem ROl.mono (h:ROl w H N b o C x) (hH:∀i,H i→H2 i) (hN:∀i,N i→N2 i) (l1:∀i,H2 i→i<w.heap.size) (l2:∀i,N2 i→i<w.heap.size) (d:∀i,H2 i→¬N2 i):ROl w H2 N2 b o C x:=by
 obtain⟨E,A,n,c,h⟩:=h
 exact⟨E,A,n,c,RO.mono h hH hN l1 l2 d⟩
end
end StoF
namespace RecC
open Go.RowKit Kit Byt Mem RecM RecA
def Gives (w:World) (xs:List Nat) (e:Ending) (w':World):Prop:=∃B m d,e=.returned (.slice B m d)∧w'.ownsRow w.heap.size 5 1 (.slice B m d) m (u8n xs)∧Below w.heap.size w w'
theorem own_mono {w:World} {b b':Nat} {e:TypeId} {v:Value} {n:Nat} {xs:List Value} (h:w.ownsRow b' e 1 v n xs) (hb:b≤b'):w.ownsRow b e 1 v n xs:=by
 refine⟨h.1,?_⟩
 rcases h.2 with h1|⟨g,cap,cur,hv,hg,hrest⟩
 ·exact .inl h1
 ·exact .inr ⟨g,cap,cur,hv,by omega,hrest⟩
end RecC
namespace QTail
open Go.RowKit
section
variable {P:Program} {ops:Array Oper} {md:Region.Mode} {C:World→Prop}
def sinks (md:Region.Mode) (ops:Array Oper) (n:Nat) (l0:Array Bool):Bool:=
 (List.range n).all fun i=>l0.getD i true || (List.range (n+1)).any fun j=>decide (i<j)&&Region.waitsFor md ops j i
theorem waits {n:Nat} {l0 listed:Array Bool} (hs:sinks md ops n l0=true) (hc:Region.chainB md ops n=true) (h0:∀i,l0.getD i true=true→listed.getD i true=true) (inv:HeadInv md ops n listed) :
 ∀d i:Nat,n-i≤d→i<n→listed.getD i true=false→∀t,n≤t→t ∉ Region.ready md ops listed:=by
 intro d
 induction d with
 | zero=>intro i hd hi;omega
 | succ d ih=>
   intro i hd hi hun t ht hr
   obtain⟨_,ot,hot,hall⟩:=mem_ready.1 hr
   have hno:∀k,Region.waitsFor md ops t k=true→listed.getD k true=false→False:=fun k hk hu=>by
    obtain⟨o',ho',e,he,hb,hon⟩:=Region.waitsFor_spec hk
    obtain rfl:o'=ot:=Option.some.inj (ho'.symm.trans hot)
    have h2:=hall e he hb
    rw [hon,getD_both hu] at h2
    cases h2
   rcases Nat.lt_or_ge n t with htn|htn
   ·have htl:t<ops.size:=(Array.getElem?_eq_some_iff.1 hot).1
    have h1:=List.all_eq_true.1 hc t (List.mem_range.2 htl)
    simp only [Bool.or_eq_true,decide_eq_true_eq] at h1
    rcases h1 with h1|h1
    ·omega
    ·exact hno _ h1 (inv.tail (t-1) (by omega) (by omega))
   ·obtain rfl:t=n:=by omega
    have h1:=List.all_eq_true.1 hs i (List.mem_range.2 hi)
    have hi0:l0.getD i true=false:=by
     cases h:l0.getD i true with
     | false=>rfl
     | true=>rw [h0 i h] at hun;cases hun
    rw [hi0,Bool.false_or] at h1
    obtain⟨j,hj,hj2⟩:=List.any_eq_true.1 h1
    simp only [Bool.and_eq_true,decide_eq_true_eq] at hj2
    have hjn:j≤t:=by have:=List.mem_range.1 hj;omega
    by_cases hjt:j=t
    ·subst hjt;exact hno _ hj2.2 hun
    ·cases hl:listed.getD j true with
     | false=>exact ih j (by omega) (by omega) hl t (Nat.le_refl _) hr
     | true=>
       obtain⟨oj,hoj,e,he,hb,hon⟩:=Region.waitsFor_spec hj2.2
       have hjs:j<listed.size:=by rw [inv.size];exact (Array.getElem?_eq_some_iff.1 hoj).1
       have hl':listed.getD j false=true:=by simpa [hjs] using hl
       have h2:=inv.closed j oj hoj hl' e he hb
       rw [hon,getD_both hun] at h2
       cases h2
def anyQ (P:Program) (md:Region.Mode) (ops:Array Oper) (C:World→Prop) (n:Nat) (L:Array Bool→Act→Prop):Nat→Array Bool→Act→Prop
 | 0,listed,a=>L listed a
 | f+1,listed,a=>Region.ready md ops listed≠[]∧∀i ∈ Region.ready md ops listed,i<n∧qOp P ops C i (anyQ P md ops C n L f (listed.setIfInBounds i true)) a
theorem any_of {n g:Nat} {L:Array Bool→Act→Prop} {Q':Exit→Act→World→Prop} (hL:∀listed a w,C w→L listed a→wpAny P md ops Q' g listed a w) :
 ∀(f:Nat) (listed:Array Bool) (a:Act) (w:World),C w→anyQ P md ops C n L f listed a→wpAny P md ops Q' (f+g) listed a w
 | 0,listed,a,w,hC,h=>by rw [Nat.zero_add];exact hL _ _ _ hC h
 | f+1,listed,a,w,hC,h=>by
   rw [show f+1+g=(f+g)+1 by omega]
   exact⟨fun h0=>absurd h0 h.1,fun i hi=>wpOp_of_qOp hC (fun a' w' hC' h'=>any_of hL f _ a' w' hC' h') (h.2 i hi).2⟩
theorem anyQ_first {n i:Nat} {oi:Oper} {v:Value} {L:Array Bool→Act→Prop} {l0:Array Bool} (hi:ops[i]?=some oi) (hsel:∀(j:Nat) (o:Oper) cs b,ops[j]?=some o→o.op≠.select cs b)
 (hs:sinks md ops n l0=true) (hc:Region.chainB md ops n=true) (hin:i<n) (hdone:∀listed a,L listed a→∀j ∈ Region.ready md ops listed,n≤j) :
 ∀(f:Nat) (listed:Array Bool) (a:Act),HeadInv md ops n listed→(∀i,l0.getD i true=true→listed.getD i true=true)→
  (∀j oj,ops[j]?=some oj→j≠i→listed.getD j true=false→(∀e ∈ oj.after,Region.binds md e=true→e.on≠i)→oi.apart ops oj=true)→
  i ∈ Region.ready md ops listed→YieldsIn P ops C oi v a→
  anyQ P md ops C n L f (listed.setIfInBounds i true) (a.put oi.dst v)→anyQ P md ops C n L (f+1) listed a:=by
 intro f
 induction f with
 | zero=>
   intro listed a inv h0 _ hr hy H
   refine⟨fun h=>(by rw [h] at hr;cases hr),fun j hj=>?_⟩
   have hjn:j<n:=Nat.lt_of_not_ge fun h=>waits hs hc h0 inv _ i (Nat.le_refl _) hin (mem_ready.1 hr).1 j h hj
   refine⟨hjn,?_⟩
   by_cases hji:j=i
   ·subst hji;exact hy.qOp hi H
   ·have:=hdone _ _ H j (ready_mono hj hji)
    omega
 | succ f ih=>
   intro listed a inv h0 hfree hr hy H
   refine⟨fun h=>(by rw [h] at hr;cases hr),fun j hj=>?_⟩
   have hjn:j<n:=Nat.lt_of_not_ge fun h=>waits hs hc h0 inv _ i (Nat.le_refl _) hin (mem_ready.1 hr).1 j h hj
   refine⟨hjn,?_⟩
   by_cases hji:j=i
   ·subst hji;exact hy.qOp hi H
   ·obtain⟨hjun,oj,hoj,hall⟩:=mem_ready.1 hj
    have hnot:∀e ∈ oj.after,Region.binds md e=true→e.on≠i:=fun e he hb heq=>by
     have h1:=hall e he hb
     rw [heq,getD_both (mem_ready.1 hr).1] at h1
     cases h1
    have hgo:=qOp_put hoj (hfree j oj hoj hji hjun hnot) (fun cs b=>hsel i oi cs b hi) (fun cs b=>hsel j oj cs b hoj) hy (H.2 j (ready_mono hj hji)).2
    refine qOp_mono (fun a' h3=>ih (listed.setIfInBounds j true) a' (inv.set hj hjn) (fun k hk=>?_) (fun k ok hk hki hun hno=>hfree k ok hk hki ?_ hno) (ready_mono hr (Ne.symm hji)) h3.1 ?_) hgo
    ·by_cases hjk:j=k
     ·subst hjk
      by_cases hb:j<listed.size
      ·simp [hb]
      ·simp [hb]
     ·rw [getD_set_ne true hjk];exact h0 k hk
    ·by_cases hjk:j=k
     ·subst hjk;exact hjun
     ·rw [getD_set_ne true hjk] at hun;exact hun
    ·rw [Array.setIfInBounds_comm _ _ hji]
     exact h3.2
def lexI (md:Region.Mode) (ops:Array Oper) (n g:Nat):List Nat→Array Bool→Bool
 | [],listed=>Region.seqB md ops g n listed
 | i :: is,listed=>decide (i<n)&&(Region.ready md ops listed).contains i&&Region.free md ops listed i&&lexI md ops n g is (listed.setIfInBounds i true)
def wpQI (P:Program) (ops:Array Oper) (C:World→Prop) (L:Act→Prop):List Nat→Act→Prop
 | [],a=>L a
 | i :: is,a=>qOp P ops C i (wpQI P ops C L is) a
theorem wpQI_nil {L:Act→Prop} {a:Act} (h:L a):wpQI P ops C L [] a:=h
theorem wpQI_step {L:Act→Prop} {a:Act} {i:Nat} {is:List Nat} {o:Oper} (hi:ops[i]?=some o)
 (h:∀K:Act→Prop,(∀a,wpQI P ops C L is a→K a)→if Region.wanted o (yielded ops a.tmps) then o.quiet P a C K else K (a.put o.dst undef)):wpQI P ops C L (i :: is) a:=by
 show qOp P ops C i _ a
 unfold qOp
 simp only [hi]
 exact h _ fun _ h=>h
theorem anyQ_lex {n g:Nat} {Lq:Act→Prop} {l0:Array Bool} (hsel:Region.noSelect ops=true) (hs:sinks md ops n l0=true) (hc:Region.chainB md ops n=true) :
 ∀(is:List Nat) (listed:Array Bool) (a:Act),HeadInv md ops n listed→(∀i,l0.getD i true=true→listed.getD i true=true)→
 lexI md ops n g is listed=true→wpQI P ops C Lq is a→anyQ P md ops C n (fun listed' a'=>Region.seqB md ops g n listed'=true∧Lq a') is.length listed a
 | [],_,_,_,_,hB,h=>⟨hB,h⟩
 | i :: is,listed,a,inv,h0,hB,h=>by
   simp only [lexI,Bool.and_eq_true,decide_eq_true_eq] at hB
   obtain⟨⟨⟨hin,hr⟩,hf⟩,hB'⟩:=hB
   have hr':i ∈ Region.ready md ops listed:=by simpa using hr
   obtain⟨_,o,ho,_⟩:=mem_ready.1 hr'
   obtain⟨v,hy,hK⟩:=yieldsIn_of_qOp ho (show qOp P ops C i (wpQI P ops C Lq is) a from h)
   refine anyQ_first ho (Region.noSelect_spec hsel) hs hc hin (fun listed' a' hL=>seqB_ready hL.1) is.length listed a inv h0 (Region.free_spec ho hf) hr' hy
    (anyQ_lex hsel hs hc is _ _ (inv.set hr' hin) (fun k hk=>?_) hB' hK)
   by_cases hik:i=k
   ·subst hik
    by_cases hb:i<listed.size
    ·simp [hb]
    ·simp [hb]
   ·rw [getD_set_ne true hik];exact h0 k hk
def shapeB (md:Region.Mode) (ops:Array Oper) (n:Nat) (is:List Nat) (l0:Array Bool):Bool:=
 Region.noSelect ops&&decide (n<ops.size)&&sinks md ops n l0&&Region.chainB md ops n&&decide (l0.size=ops.size) &&
 ((List.range ops.size).all fun j=>!l0.getD j false || match ops[j]? with|some oj=>oj.after.all fun e=>!Region.binds md e || l0.getD e.on false|none=>true) &&
 ((List.range ops.size).all fun t=>decide (t<n) || !l0.getD t true)&&lexI md ops n (ops.size-n) is l0
theorem wpAny_qtail {Q:Exit→Act→World→Prop} {fuel:Nat} {l0:Array Bool} {a:Act} {w:World} (n:Nat) (is:List Nat) (hB:shapeB md ops n is l0=true) (hf:fuel=is.length+(ops.size-n)) (hC:C w)
 (h:wpQI P ops C (fun a'=>∀w',C w'→wpList P ops Q (ops.toList.drop n) a' w') is a):wpAny P md ops Q fuel l0 a w:=by
 simp only [shapeB,Bool.and_eq_true,decide_eq_true_eq] at hB
 obtain⟨⟨⟨⟨⟨⟨⟨hsel,hn⟩,hs⟩,hc⟩,hz⟩,hcl⟩,htl⟩,hlex⟩:=hB
 have inv:HeadInv md ops n l0:=by
  refine⟨hz,fun j oj hoj hl e he hb=>?_,fun t ht ht'=>?_⟩
  ·have h1:=List.all_eq_true.1 hcl j (List.mem_range.2 (Array.getElem?_eq_some_iff.1 hoj).1)
   rw [hl,hoj] at h1
   simp only [Bool.not_true,Bool.false_or] at h1
   have h2:=Array.all_eq_true'.1 h1 e he
   rw [hb] at h2
   simpa using h2
  ·have h1:=List.all_eq_true.1 htl t (List.mem_range.2 ht')
   have h2 : ¬t<n:=by omega
   simpa [h2] using h1
 subst hf
 have hg:(ops.toList.drop n).length=ops.size-n:=by simp
 refine any_of (g:=ops.size-n) (fun listed' a' w' hC' hL=>?_) _ _ _ _ hC (anyQ_lex (g:=ops.size-n) hsel hs hc is l0 a inv (fun _ h=>h) hlex h)
 have:=wpAny_of_seq (md:=md) (Q':=Q) (ops.toList.drop n) n listed' a' w' (fun j=>by simp [List.getElem?_drop]) (by rw [hg];exact hL.1) (hL.2 w' hC')
 rwa [hg] at this
end
end QTail
namespace RecF
open Go.RowKit Kit Byt Mem RecM RecA RecC
open TabR (rdN num)
theorem nm_bd {xs:List Nat} (hb:byt xs) (i k:Nat):0≤nm xs i k∧nm xs i k<256 ^ k:=by
 have key:∀(l:List Nat) (a:Int) (m:Nat),(∀c ∈ l,c<256)→0≤a→a<256 ^ m→0≤(nl l).foldl (fun a b=>256*a+b) a∧(nl l).foldl (fun a b=>256*a+b) a<256 ^ (m+l.length):=by
  intro l
  induction l with
  | nil=>intro a m _ h0 h1;exact⟨h0,h1⟩
  | cons x l ih=>
    intro a m hl h0 h1
    have hx:=hl x (by simp)
    have h2:256*a+(x:Int)<256 ^ (m+1):=by rw [Int.pow_succ];omega
    have h3:=ih (256*a+x) (m+1) (fun c hc=>hl c (by simp [hc])) (by omega) h2
    have e:m+(x :: l).length=m+1+l.length:=by simp;omega
    rw [e]
    exact h3
 have h1:=key ((xs.drop i).take k) 0 0 (byt_take (byt_drop hb i) k) (by omega) (by simp)
 refine⟨h1.1,Int.lt_of_lt_of_le h1.2 ?_⟩
 have h2:(256:Nat) ^ (0+((xs.drop i).take k).length)≤256 ^ k:=Nat.pow_le_pow_right (by omega) (by simp;omega)
 have h3:((256 ^ k:Nat):Int)=(256:Int) ^ k:=by simp
 have h4:((256 ^ (0+((xs.drop i).take k).length):Nat):Int)=(256:Int) ^ (0+((xs.drop i).take k).length):=by simp
 omega
theorem n64_of {xs:List Nat} (hb:byt xs) (i k:Nat) (hk:k≤4):n64 (nm xs i k):=by
 have h:=nm_bd hb i k
 have h2:(256:Nat) ^ k≤256 ^ 4:=Nat.pow_le_pow_right (by omega) hk
 have h3:((256 ^ k:Nat):Int)=(256:Int) ^ k:=by simp
 unfold n64
 omega
end RecF
namespace StoU
open Go.RowKit Kit Byt Mem RecM StgM ImgT StoM StoV StoA StoE StoF
open StgA (hd)
open RecA (rval rcells)
section
variable {D:Dc} {M:Mm} {k p:Nat}
def lst (D:Dc) (M:Mm):Nat→List Value
 | 0=>[]
 | k+1=>lst D M k++ocs (D.O k).r (M.sb k) (M.sc k) (M.ib k) (M.ic k)
theorem lst_len (D:Dc) (M:Mm) (k:Nat):(lst D M k).length=k*8:=by
 induction k with
 | zero=>rfl
 | succ k ih=>show (lst D M k++_).length=_;rw [List.length_append,ih];show k*8+8=_;omega
theorem lst_get (hp:p<k) {i:Nat} {v:Value} (hi:(ocs (D.O p).r (M.sb p) (M.sc p) (M.ib p) (M.ic p))[i]?=some v):(lst D M k)[p*8+i]?=some v:=by
 have hi8:i<8:=(List.getElem?_eq_some_iff.1 hi).1
 induction k with
 | zero=>omega
 | succ k ih=>
   show (lst D M k++_)[p*8+i]?=some v
   by_cases e:p=k
   ·subst e
    rw [List.getElem?_append_right (by rw [lst_len];omega),lst_len,show p*8+i-p*8=i from by omega]
    exact hi
   ·rw [List.getElem?_append_left (by rw [lst_len];omega)]
    exact ih (by omega)
theorem lst_cong {D':Dc} {M':Mm} (h:∀q,q<k→ocs (D'.O q).r (M'.sb q) (M'.sc q) (M'.ib q) (M'.ic q)=ocs (D.O q).r (M.sb q) (M.sc q) (M.ib q) (M.ic q)):lst D' M' k=lst D M k:=by
 induction k with
 | zero=>rfl
 | succ k ih=>show lst D' M' k++_=lst D M k++_;rw [ih fun q hq=>h q (by omega),h k (by omega)]
end
structure RP (w0 w:World) (ρ0 ρ:Nat→Rl) (b:Nat) (tb:List Value) (LA:Option Addr) (lc k:Nat) (D:Dc) (M:Mm):Prop where
 head:Blk w b 90 (tb++[.slice LA k lc])
 row:w.ownsRow w0.heap.size 87 8 (.slice LA k lc) k (lst D M k)
 caps:∀p,p<k→2≤M.sc p∧M.sc p≤9223372036854775807∧2≤M.ic p∧M.ic p≤9223372036854775807
 slot:∀p,p<k→∀j,j≤1→ROl w (sH ρ p j) (isD ρ) (M.sb p) (j*5) (M.SC p) ((D.O p).x j)
 imgs:∀p,p<k→Blk w (M.ib p) 54 (M.IC p)∧16≤(M.IC p).length
 img:∀p,p<k→∀j,j≤1→∃A m c,(∀i v,(igc (D.I p j) A m c)[i]?=some v→(M.IC p)[j*8+i]?=some v)∧Rd w A m c (u8n (D.I p j).xs)∧(0<m→∀q o,A=some ⟨q,o,none⟩→ρ q=.data)
 rb:ρ b=.head
 rl:∀i,(Value.slice LA k lc).ownBlock=some i→ρ i=.list
 rs:∀p,p<k→ρ (M.sb p)=.slots p
 ri:∀p,p<k→ρ (M.ib p)=.imgs p
 us:∀i p,ρ i=.slots p→i=M.sb p
 un:∀i r,ρ i=r→(r=.out∨r=.data∨r=.head∨r=.list∨(∃p,p<k∧(r=.slots p∨r=.imgs p∨r=.row p 0∨r=.row p 1)))
 lt:∀i,isO ρ i→i<w.heap.size
 new_:∀i,isO ρ i→isD ρ0 i∨w0.heap.size≤i
 dat:∀i,isD ρ0 i→isD ρ i
 bel:Below w0.heap.size w0 w
section
variable {w0 w:World} {ρ0 ρ:Nat→Rl} {b lc n:Nat} {tb:List Value} {LA:Option Addr} {D:Dc} {M:Mm}
theorem RP.done (h:RP w0 w ρ0 ρ b tb LA lc n D M) (h5:tb.length=5) (h1:1≤n) (h4:n≤4):∃M',RSt w ρ b tb n D M':=by
 rcases h.row.2 with⟨hv,h0⟩|⟨g,cap,cur,hv,_,hh,hnc,hcm,hcs,hx⟩
 ·simp only [Value.slice.injEq] at hv
  omega
 ·simp only [Value.slice.injEq] at hv
  obtain⟨rfl,_,rfl⟩:=hv
  refine⟨{ M with lb:=g,lc:=lc,LC:=cur.toList },h.head,h5,?_,⟨h4,hnc,by unfold maxLen at hcm;show lc≤_;omega⟩,fun p hp=>⟨?_,fun i v hi=>?_⟩,h.caps,h.slot,h.imgs,h.img,h.rb,h.rl g rfl,h.rs,h.ri,h.us,h.lt⟩
  ·show w.heap[g]?=_
   rw [hh]
  ·show p*8+8≤cur.toList.length
   rw [Array.length_toList,hcs]
   have:=Nat.mul_le_mul_right 8 hnc
   omega
  ·have hl:=lst_get (D:=D) (M:=M) hp hi
   show cur.toList[p*8+i]?=some v
   have hlt:=(List.getElem?_eq_some_iff.1 hl).1
   rw [lst_len] at hlt
   rw [←hx,List.getElem?_take,if_pos hlt] at hl
   exact hl
end
end StoU
namespace StoX
open Go.RowKit Kit Byt Mem RecM StgM ImgT StoM StoV StoA StoE StoF StoU
open StgA (hd)
open RecA (rval rcells)
def own? (A:Option Addr) (n c:Nat):Option Nat:=(Value.slice A n c).ownBlock
structure Ly where
 SA:Option Addr
 sc:Nat
 IA:Option Addr
 ic:Nat
 E:Nat→List Sl
 A:Nat→Option Addr
 m:Nat→Nat
 c:Nat→Nat
 CA:Nat→Option Addr
 cm:Nat→Nat
 cc:Nat→Nat
def hds (o:Ow) (y:Ly):Nat→List Value
 | 0=>[]
 | k+1=>hds o y k++hd (o.x k) (y.A k) (y.m k) (y.c k)
def igs (I:Nat→Ig) (y:Ly):Nat→List Value
 | 0=>[]
 | k+1=>igs I y k++igc (I k) (y.CA k) (y.cm k) (y.cc k)
structure PS (w:World) (B ks ki:Nat) (o:Ow) (I:Nat→Ig) (ρ:Nat→Rl) (y:Ly):Prop where
 s:w.ownsRow B 97 5 (.slice y.SA ks y.sc) ks (hds o y ks)
 im:w.ownsRow B 54 8 (.slice y.IA ki y.ic) ki (igs I y ki)
 r:∀j,j<ks→w.ownsRow B 52 1 (.slice (y.A j) (y.m j) (y.c j)) (y.m j) ((y.E j).map Sl.val)
 sl:∀j,j<ks→(o.x j).bl=(y.E j).map (·.xs)∧∀e ∈ y.E j,Rd w e.A e.n e.c (u8n e.xs)∧∀q o',e.A=some ⟨q,o',none⟩→isD ρ q
 ig:∀j,j<ki→Rd w (y.CA j) (y.cm j) (y.cc j) (u8n (I j).xs)∧(0<y.cm j→∀q o',y.CA j=some ⟨q,o',none⟩→isD ρ q)
 a1:∀i,own? y.SA ks y.sc=some i→own? y.IA ki y.ic≠some i
 a2:∀j,j<ks→∀i,own? (y.A j) (y.m j) (y.c j)=some i→own? y.SA ks y.sc≠some i∧own? y.IA ki y.ic≠some i∧∀j',j'<ks→j'≠j→own? (y.A j') (y.m j') (y.c j')≠some i
theorem row_block {w:World} {B n size:Nat} {e:TypeId} {A:Option Addr} {c:Nat} {xs:List Value} (h:w.ownsRow B e size (.slice A n c) n xs) (hn:0<n) :
 ∃(g:Nat) (C:List Value),A=some ⟨g,0,none⟩∧B≤g∧g<w.heap.size∧Blk w g e C∧C.length=c*size∧n≤c∧c≤9223372036854775807∧(∀(i:Nat) (v:Value),xs[i]?=some v→C[i]?=some v):=by
 rcases h.2 with⟨hv,h0⟩|⟨g,cap,cur,hv,hb,hh,hnc,hcm,hcs,hx⟩
 ·simp only [Value.slice.injEq] at hv
  omega
 ·simp only [Value.slice.injEq] at hv
  obtain⟨rfl,_,rfl⟩:=hv
  refine⟨g,cur.toList,rfl,hb,lt_of_block hh,?_,by rw [Array.length_toList,hcs],hnc,by unfold maxLen at hcm;omega,fun i v hi=>?_⟩
  ·show w.heap[g]?=_
   rw [hh]
  ·rw [←hx,List.getElem?_take] at hi
   split at hi
   ·exact hi
   ·cases hi
theorem own_ge {w:World} {B n size:Nat} {e:TypeId} {A:Option Addr} {c:Nat} {xs:List Value} (h:w.ownsRow B e size (.slice A n c) n xs):∀i,own? A n c=some i→B≤i∧i<w.heap.size:=fun i hi=>h.lt i hi
section
variable {w0 w w2:World} {ρ0 ρ:Nat→Rl} {b lc lc' k B:Nat} {tb:List Value} {LA LA':Option Addr} {D:Dc} {M:Mm} {y:Ly} {G:Nat→Prop}
theorem hds_get {o:Ow} {j i:Nat} {v:Value} (hj:j<2) (hi:(hd (o.x j) (y.A j) (y.m j) (y.c j))[i]?=some v):(hds o y 2)[j*5+i]?=some v:=by
 have hi5:=(List.getElem?_eq_some_iff.1 hi).1
 rw [hd_len] at hi5
 show (([]++hd (o.x 0) (y.A 0) (y.m 0) (y.c 0))++hd (o.x 1) (y.A 1) (y.m 1) (y.c 1))[j*5+i]?=some v
 rw [List.nil_append]
 rcases (show j=0∨j=1 by omega) with rfl|rfl
 ·rw [List.getElem?_append_left (by rw [hd_len];omega),show 0*5+i=i from by omega]
  exact hi
 ·rw [List.getElem?_append_right (by rw [hd_len];omega),hd_len,show 1*5+i-5=i from by omega]
  exact hi
theorem igs_get {I:Nat→Ig} {j i:Nat} {v:Value} (hj:j<2) (hi:(igc (I j) (y.CA j) (y.cm j) (y.cc j))[i]?=some v):(igs I y 2)[j*8+i]?=some v:=by
 have hi5:i<8:=(List.getElem?_eq_some_iff.1 hi).1
 show (([]++igc (I 0) (y.CA 0) (y.cm 0) (y.cc 0))++igc (I 1) (y.CA 1) (y.cm 1) (y.cc 1))[j*8+i]?=some v
 rw [List.nil_append]
 rcases (show j=0∨j=1 by omega) with rfl|rfl
 ·rw [List.getElem?_append_left (by show 0*8+i<8;omega),show 0*8+i=i from by omega]
  exact hi
 ·rw [List.getElem?_append_right (by show 8≤1*8+i;omega),show 1*8+i-(igc (I 0) (y.CA 0) (y.cm 0) (y.cc 0)).length=i from by show 1*8+i-8=i;omega]
  exact hi
def rel (ρ:Nat→Rl) (k gs gi:Nat) (y:Ly) (LA':Option Addr) (lc':Nat) (i:Nat):Rl:=
 if i=gs then .slots k else if i=gi then .imgs k else if own? (y.A 0) (y.m 0) (y.c 0)=some i then .row k 0 else if own? (y.A 1) (y.m 1) (y.c 1)=some i then .row k 1 else if own? LA' (k+1) lc'=some i then .list else ρ i
theorem RP.next (h:RP w0 w ρ0 ρ b tb LA lc k D M) (K:Keep G w w2) (hG:∀i,isO ρ i→ρ i≠.head→ρ i≠.list→¬G i) (hb:Below w0.heap.size w0 w2) (hw0:w0.heap.size≤B) (hP:PS w2 B 2 2 (D.O k) (D.I k) ρ y) (hF:∀i,isO ρ i→own? y.SA 2 y.sc≠some i∧own? y.IA 2 y.ic≠some i∧own? (y.A 0) (y.m 0) (y.c 0)≠some i∧own? (y.A 1) (y.m 1) (y.c 1)≠some i)
 {gs gi:Nat} (hgs:y.SA=some ⟨gs,0,none⟩) (hgi:y.IA=some ⟨gi,0,none⟩)
 (hrow:w2.ownsRow w0.heap.size 87 8 (.slice LA' (k+1) lc') (k+1) (lst D M k++ocs (D.O k).r gs y.sc gi y.ic)) (hhead:Blk w2 b 90 (tb++[.slice LA' (k+1) lc']))
 (hL:∀i,own? LA' (k+1) lc'=some i→ρ i=.list∨(ρ i=.out∧i≠gs∧i≠gi∧own? (y.A 0) (y.m 0) (y.c 0)≠some i∧own? (y.A 1) (y.m 1) (y.c 1)≠some i)) :
 ∃ρ' M',RP w0 w2 ρ0 ρ' b tb LA' lc' (k+1) D M':=by
 obtain⟨gs',SC,e1,hs1,hs2,hs3,hs4,hs5,hs6,hs7⟩:=row_block hP.s (by omega)
 obtain rfl:gs'=gs:=by rw [hgs] at e1;injection e1 with e1;injection e1 with e1;exact e1.symm
 obtain⟨gi',IC,e2,hi1,hi2,hi3,hi4,hi5,hi6,hi7⟩:=row_block hP.im (by omega)
 obtain rfl:gi'=gi:=by rw [hgi] at e2;injection e2 with e2;injection e2 with e2;exact e2.symm
 obtain⟨ρ',hρ⟩:∃ρ',ρ'=rel ρ k gs' gi' y LA' lc':=⟨_,rfl⟩
 have hns:own? y.SA 2 y.sc=some gs':=by rw [hgs];rfl
 have hni:own? y.IA 2 y.ic=some gi':=by rw [hgi];rfl
 have hsi:gi'≠gs':=fun e=>hP.a1 gs' hns (by rw [hni,e])
 have hA0:=fun i (hi:own? (y.A 0) (y.m 0) (y.c 0)=some i)=>own_ge (hP.r 0 (by omega)) i hi
 have hA1:=fun i (hi:own? (y.A 1) (y.m 1) (y.c 1)=some i)=>own_ge (hP.r 1 (by omega)) i hi
 have hold:∀i,isO ρ i→ρ' i=ρ i:=fun i hi=>by
  have hlt:=hF i hi
  rw [hρ]
  unfold rel
  rw [if_neg (fun e=>hlt.1 (by rw [hns,e])),if_neg (fun e=>hlt.2.1 (by rw [hni,e])),if_neg hlt.2.2.1,if_neg hlt.2.2.2]
  by_cases e:own? LA' (k+1) lc'=some i
  ·rw [if_pos e]
   rcases hL i e with h1|h1
   ·exact h1.symm
   ·exact absurd h1.1 hi
  ·rw [if_neg e]
 have l1:ρ' gs'=.slots k:=by rw [hρ];unfold rel;rw [if_pos rfl]
 have l2:ρ' gi'=.imgs k:=by rw [hρ];unfold rel;rw [if_neg hsi,if_pos rfl]
 have l3:∀i,own? (y.A 0) (y.m 0) (y.c 0)=some i→ρ' i=.row k 0:=fun i hi=>by
  have h2:=hP.a2 0 (by omega) i hi
  rw [hρ];unfold rel
  rw [if_neg (fun e=>h2.1 (by rw [hns,e])),if_neg (fun e=>h2.2.1 (by rw [hni,e])),if_pos hi]
 have l4:∀i,own? (y.A 1) (y.m 1) (y.c 1)=some i→ρ' i=.row k 1:=fun i hi=>by
  have h2:=hP.a2 1 (by omega) i hi
  rw [hρ];unfold rel
  rw [if_neg (fun e=>h2.1 (by rw [hns,e])),if_neg (fun e=>h2.2.1 (by rw [hni,e])),if_neg (h2.2.2 0 (by omega) (by omega)),if_pos hi]
 have l5:∀i,own? LA' (k+1) lc'=some i→ρ' i=.list:=fun i hi=>by
  rcases hL i hi with h1|⟨_,h2,h3,h4,h5⟩
  ·rw [hold i (fun e=>by rw [h1] at e;cases e)];exact h1
  ·rw [hρ];unfold rel
   rw [if_neg h2,if_neg h3,if_neg h4,if_neg h5,if_pos hi]
 have hcas:∀i,ρ' i=ρ i∨(i=gs'∧ρ' i=.slots k)∨(i=gi'∧ρ' i=.imgs k)∨(own? (y.A 0) (y.m 0) (y.c 0)=some i∧ρ' i=.row k 0)∨(own? (y.A 1) (y.m 1) (y.c 1)=some i∧ρ' i=.row k 1)∨(own? LA' (k+1) lc'=some i∧ρ' i=.list):=fun i=>by
  by_cases c1:i=gs'
  ·exact .inr (.inl ⟨c1,by rw [c1];exact l1⟩)
  by_cases c2:i=gi'
  ·exact .inr (.inr (.inl ⟨c2,by rw [c2];exact l2⟩))
  by_cases c3:own? (y.A 0) (y.m 0) (y.c 0)=some i
  ·exact .inr (.inr (.inr (.inl ⟨c3,l3 i c3⟩)))
  by_cases c4:own? (y.A 1) (y.m 1) (y.c 1)=some i
  ·exact .inr (.inr (.inr (.inr (.inl ⟨c4,l4 i c4⟩))))
  by_cases c5:own? LA' (k+1) lc'=some i
  ·exact .inr (.inr (.inr (.inr (.inr ⟨c5,l5 i c5⟩))))
  ·refine .inl ?_
   rw [hρ];unfold rel
   rw [if_neg c1,if_neg c2,if_neg c3,if_neg c4,if_neg c5]
 have hlt2:∀i,isO ρ' i→i<w2.heap.size∧(isD ρ0 i∨w0.heap.size≤i):=fun i hi=>by
  rcases hcas i with c|⟨c,_⟩|⟨c,_⟩|⟨c,_⟩|⟨c,_⟩|⟨c,_⟩
  ·have hi':isO ρ i:=fun e=>hi (by rw [c];exact e)
   exact⟨Nat.lt_of_lt_of_le (h.lt i hi') K.size,h.new_ i hi'⟩
  ·exact⟨by omega,.inr (by omega)⟩
  ·exact⟨by omega,.inr (by omega)⟩
  ·have:=hA0 i c;exact⟨this.2,.inr (by omega)⟩
  ·have:=hA1 i c;exact⟨this.2,.inr (by omega)⟩
  ·have h3:=(hrow.lt i c);exact⟨h3.2,.inr h3.1⟩
 have hdat:∀i,isD ρ' i↔isD ρ i:=fun i=>by
  constructor
  ·intro hi
   have hi:ρ' i=.data:=hi
   rcases hcas i with c|⟨_,c⟩|⟨_,c⟩|⟨_,c⟩|⟨_,c⟩|⟨_,c⟩
   ·show ρ i=.data;rw [←c];exact hi
   all_goals rw [hi] at c;cases c
  ·intro hi
   show ρ' i=.data
   rw [hold i (fun e=>by rw [show ρ i=.data from hi] at e;cases e)]
   exact hi
 have hnk:∀i,ρ i≠.slots k∧ρ i≠.imgs k∧∀j,ρ i≠.row k j:=fun i=>by
  refine⟨fun e=>?_,fun e=>?_,fun j e=>?_⟩
  all_goals
   rcases h.un i _ e with c|c|c|c|⟨p,hp,c|c|c|c⟩
   all_goals first
    | (cases c;omega)
    | cases c
 refine⟨ρ',{ M with sb:=upd M.sb k gs',sc:=upd M.sc k y.sc,SC:=upd M.SC k SC,ib:=upd M.ib k gi',ic:=upd M.ic k y.ic,IC:=upd M.IC k IC },?_⟩
 have hsO:∀{p j i},sH ρ p j i→isO ρ i:=fun {p j i} hi e=>by rcases hi with hi|hi <;> rw [hi] at e <;> cases e
 have hsO':∀{p j i},sH ρ' p j i→isO ρ' i:=fun {p j i} hi e=>by rcases hi with hi|hi <;> rw [hi] at e <;> cases e
 have hdO':∀{i},isD ρ' i→isO ρ' i:=fun {i} hi e=>by rw [show ρ' i=.data from hi] at e;cases e
 have hdis:∀p j i,sH ρ' p j i→¬isD ρ' i:=fun p j i hi hd=>by
  have hd:ρ' i=.data:=hd
  rcases hi with hi|hi <;> rw [hd] at hi <;> cases hi
 have ho1:∀{p j i},sH ρ p j i→sH ρ' p j i:=fun {p j i} hi=>by
  unfold sH
  rw [hold i (hsO hi)]
  exact hi
 have hkp:∀{p:Nat},p<k+1→p≠k→p<k:=fun h1 h2=>by omega
 have hro:∀j,j≤1→∀i,own? (y.A j) (y.m j) (y.c j)=some i→ρ' i=.row k j∧i≠gs':=fun j hj i hi=>by
  have h2:=hP.a2 j (by omega) i hi
  refine⟨?_,fun e=>h2.1 (by rw [hns,e])⟩
  rcases (show j=0∨j=1 by omega) with rfl|rfl
  ·exact l3 i hi
  ·exact l4 i hi
 refine⟨hhead,?_,fun p hp=>?_,fun p hp j hj=>?_,fun p hp=>?_,fun p hp j hj=>?_,?_,l5,fun p hp=>?_,fun p hp=>?_,fun i p hi=>?_,fun i r hr=>?_,fun i hi=>(hlt2 i hi).1,fun i hi=>(hlt2 i hi).2,fun i hi=>(hdat i).2 (h.dat i hi),hb⟩
 ·have e:lst D { M with sb:=upd M.sb k gs',sc:=upd M.sc k y.sc,SC:=upd M.SC k SC,ib:=upd M.ib k gi',ic:=upd M.ic k y.ic,IC:=upd M.IC k IC } (k+1)=lst D M k++ocs (D.O k).r gs' y.sc gi' y.ic:=by
   show lst D _ k++ocs _ (upd M.sb k gs' k) (upd M.sc k y.sc k) (upd M.ib k gi' k) (upd M.ic k y.ic k)=_
   rw [upd_at,upd_at,upd_at,upd_at]
   congr 1
   refine lst_cong fun q hq=>?_
   show ocs _ (upd M.sb k gs' q) (upd M.sc k y.sc q) (upd M.ib k gi' q) (upd M.ic k y.ic q)=_
   have hne:q≠k:=by omega
   rw [upd_ne _ _ hne,upd_ne _ _ hne,upd_ne _ _ hne,upd_ne _ _ hne]
  rw [e]
  exact hrow
 ·show 2≤upd M.sc k y.sc p∧upd M.sc k y.sc p≤_∧2≤upd M.ic k y.ic p∧upd M.ic k y.ic p≤_
  by_cases e:p=k
  ·subst e
   rw [upd_at,upd_at]
   exact⟨hs5,hs6,hi5,hi6⟩
  ·rw [upd_ne _ _ e,upd_ne _ _ e]
   exact h.caps p (hkp hp e)
 ·show ROl w2 _ _ (upd M.sb k gs' p) (j*5) (upd M.SC k SC p) _
  by_cases e:p=k
  ·subst e
   rw [upd_at,upd_at]
   have hf:j*5+(hd ((D.O p).x j) (y.A j) (y.m j) (y.c j)).length≤SC.length:=by rw [hd_len,hs4];omega
   have hsl:=hP.sl j (by omega)
   refine⟨y.E j,y.A j,y.m j,y.c j,⟨?_,by rw [hs4];omega,StgD.own_mono1 (hP.r j (by omega)) (Nat.zero_le _),hsl.1,fun q hq=>⟨(hsl.2 q hq).1,fun r o hA=>(hdat r).2 ((hsl.2 q hq).2 r o hA)⟩,.inl l1,fun i hi=>⟨.inr (hro j hj i hi).1,(hro j hj i hi).2⟩,fun i hi=>(hlt2 i (hsO' hi)).1,fun i hi=>(hlt2 i (hdO' hi)).1,hdis p j⟩⟩
   rw [spl_same hf fun i v hi=>hs7 _ v (hds_get (by omega) hi)]
   exact hs3
  ·rw [upd_ne _ _ e,upd_ne _ _ e]
   refine ROl.mono ((h.slot p (hkp hp e) j hj).keep K (fun i hi=>hG i (hsO hi) (fun e2=>?_) (fun e2=>?_)) (fun i hi=>hG i (fun e2=>?_) (fun e2=>?_) (fun e2=>?_))) (fun i hi=>ho1 hi) (fun i hi=>(hdat i).2 hi) (fun i hi=>(hlt2 i (hsO' hi)).1) (fun i hi=>(hlt2 i (hdO' hi)).1) (hdis p j)
   ·rcases hi with hi|hi <;> rw [hi] at e2 <;> cases e2
   ·rcases hi with hi|hi <;> rw [hi] at e2 <;> cases e2
   all_goals (rw [show ρ i=.data from hi] at e2;cases e2)
 ·show Blk w2 (upd M.ib k gi' p) _ (upd M.IC k IC p)∧16≤(upd M.IC k IC p).length
  by_cases e:p=k
  ·subst e
   rw [upd_at,upd_at]
   exact⟨hi3,by rw [hi4];omega⟩
  ·rw [upd_ne _ _ e,upd_ne _ _ e]
   have hr:=h.ri p (hkp hp e)
   exact⟨K.blk (h.imgs p (hkp hp e)).1 (hG _ (fun e2=>by rw [hr] at e2;cases e2) (by rw [hr];simp) (by rw [hr];simp)),(h.imgs p (hkp hp e)).2⟩
 ·show ∃A m c,(∀i v,_→(upd M.IC k IC p)[j*8+i]?=some v)∧_
  by_cases e:p=k
  ·subst e
   rw [upd_at]
   have hg:=hP.ig j (by omega)
   exact⟨y.CA j,y.cm j,y.cc j,fun i v hi=>hi7 _ v (igs_get (by omega) hi),hg.1,fun hm q o hA=>(hdat q).2 (hg.2 hm q o hA)⟩
  ·rw [upd_ne _ _ e]
   obtain⟨A,m,c,h1,h2,h3⟩:=h.img p (hkp hp e) j hj
   refine⟨A,m,c,h1,K.rd h2 fun hm q o hA=>?_,fun hm q o hA=>(hdat q).2 (h3 hm q o hA)⟩
   have hq:=h3 hm q o hA
   exact hG q (fun e2=>by rw [hq] at e2;cases e2) (by rw [hq];simp) (by rw [hq];simp)
 ·rw [hold b (fun e=>by rw [h.rb] at e;cases e)];exact h.rb
 ·show ρ' (upd M.sb k gs' p)=_
  by_cases e:p=k
  ·subst e;rw [upd_at];exact l1
  ·rw [upd_ne _ _ e,hold _ (fun e2=>by rw [h.rs p (hkp hp e)] at e2;cases e2)];exact h.rs p (hkp hp e)
 ·show ρ' (upd M.ib k gi' p)=_
  by_cases e:p=k
  ·subst e;rw [upd_at];exact l2
  ·rw [upd_ne _ _ e,hold _ (fun e2=>by rw [h.ri p (hkp hp e)] at e2;cases e2)];exact h.ri p (hkp hp e)
 ·show i=upd M.sb k gs' p
  rcases hcas i with c|⟨c,c'⟩|⟨_,c⟩|⟨_,c⟩|⟨_,c⟩|⟨_,c⟩
  ·rw [c] at hi
   have hpk:p≠k:=fun e=>(hnk i).1 (by rw [hi,e])
   rw [upd_ne _ _ hpk]
   exact h.us i p hi
  ·rw [hi] at c'
   injection c' with c'
   rw [c',upd_at]
   exact c
  all_goals (rw [hi] at c;cases c)
 ·rcases hcas i with c|⟨_,c⟩|⟨_,c⟩|⟨_,c⟩|⟨_,c⟩|⟨_,c⟩
  ·rw [c] at hr
   rcases h.un i r hr with c1|c1|c1|c1|⟨p,hp,c1⟩
   ·exact .inl c1
   ·exact .inr (.inl c1)
   ·exact .inr (.inr (.inl c1))
   ·exact .inr (.inr (.inr (.inl c1)))
   ·exact .inr (.inr (.inr (.inr ⟨p,by omega,c1⟩)))
  ·exact .inr (.inr (.inr (.inr ⟨k,by omega,.inl (by rw [←hr,c])⟩)))
  ·exact .inr (.inr (.inr (.inr ⟨k,by omega,.inr (.inl (by rw [←hr,c]))⟩)))
  ·exact .inr (.inr (.inr (.inr ⟨k,by omega,.inr (.inr (.inl (by rw [←hr,c])))⟩)))
  ·exact .inr (.inr (.inr (.inr ⟨k,by omega,.inr (.inr (.inr (by rw [←hr,c])))⟩)))
  ·exact .inr (.inr (.inr (.inl (by rw [←hr,c]))))
end
end StoX
namespace StoZ
open Go.RowKit Kit Byt Mem RecM StgM ImgT StoM StoV StoA StoE StoF StoU StoX
open StgA (hd)
open RecA (rval rcells)
open Classical in
noncomputable def rl0 (ρ0:Nat→Rl) (xb:Nat) (i:Nat):Rl:=if i=xb then .head else if ρ0 i=.data then .data else .out
def y0:Ly:=⟨none,0,none,0,fun _=>[],fun _=>none,fun _=>0,fun _=>0,fun _=>none,fun _=>0,fun _=>0⟩
section
variable {w w':World} {ρ0 ρ:Nat→Rl} {b n:Nat} {tb:List Value} {D:Dc} {M:Mm}
theorem RP.zero0 (hd:∀i,isD ρ0 i→i<w.heap.size) (hb:Below w.heap.size w w') (hB:Blk w' w.heap.size 90 (tb++[.slice none 0 0])):RP w w' ρ0 (rl0 ρ0 w.heap.size) w.heap.size tb none 0 0 D M:=by
 refine⟨hB,World.ownsRow_nil _ _ _ _,fun p hp=>absurd hp (by omega),fun p hp=>absurd hp (by omega),fun p hp=>absurd hp (by omega),fun p hp=>absurd hp (by omega),?_,fun i hi=>?_,fun p hp=>absurd hp (by omega),fun p hp=>absurd hp (by omega),fun i p hi=>?_,fun i r hr=>?_,fun i hi=>?_,fun i hi=>?_,fun i hi=>?_,hb⟩
 ·unfold rl0;rw [if_pos rfl]
 ·simp [Value.ownBlock] at hi
 ·unfold rl0 at hi
  split at hi
  ·cases hi
  ·split at hi <;> cases hi
 ·unfold rl0 at hr
  split at hr
  ·exact .inr (.inr (.inl hr.symm))
  ·split at hr
   ·exact .inr (.inl hr.symm)
   ·exact .inl hr.symm
 ·have hs:=hb.size
  have hl:=hB.lt
  by_cases e:i=w.heap.size
  ·omega
  ·by_cases e2:ρ0 i=.data
   ·have:=hd i e2;omega
   ·exact absurd (by unfold rl0;rw [if_neg e,if_neg e2]) hi
 ·by_cases e:i=w.heap.size
  ·exact .inr (by omega)
  ·by_cases e2:ρ0 i=.data
   ·exact .inl e2
   ·exact absurd (by unfold rl0;rw [if_neg e,if_neg e2]) hi
 ·have:=hd i hi
  show rl0 ρ0 w.heap.size i=.data
  unfold rl0
  rw [if_neg (by omega),if_pos (show ρ0 i=.data from hi)]
end
def bx8 (r:Rc) (y:Ly) (ks ki:Nat):List Value:=[.int .i64 r.p,.int .i64 r.q,.int .i64 r.a,.int .i64 r.c,.int .i64 r.l,.int .i64 r.b,.slice y.SA ks y.sc,.slice y.IA ki y.ic]
section
variable {wr wi w2 w3:World} {ks ki:Nat} {o:Ow} {I:Nat→Ig} {ρ:Nat→Rl} {y:Ly}
theorem own_blw {w w':World} {b size:Nat} {e:TypeId} {v:Value} {n:Nat} {xs:List Value} (h:w.ownsRow b e size v n xs) (hb:Below w.heap.size w w'):w'.ownsRow b e size v n xs:=(Keep.of_below (F:=fun _=>False) hb).own h fun _ _ h=>h
theorem PS.keep {w w':World} {B:Nat} {G:Nat→Prop} (h:PS w B ks ki o I ρ y) (K:Keep G w w') (hG:∀i,G i→i<B) (hD:∀i,isD ρ i→¬G i):PS w' B ks ki o I ρ y:=
 ⟨K.own h.s fun i hi e=>by have:=(own_ge h.s i hi).1;have:=hG i e;omega,K.own h.im fun i hi e=>by have:=(own_ge h.im i hi).1;have:=hG i e;omega,fun j hj=>K.own (h.r j hj) fun i hi e=>by have:=(own_ge (h.r j hj) i hi).1;have:=hG i e;omega,
  fun j hj=>⟨(h.sl j hj).1,fun e he=>⟨K.rd ((h.sl j hj).2 e he).1 fun _ q o' hA=>hD q (((h.sl j hj).2 e he).2 q o' hA),((h.sl j hj).2 e he).2⟩⟩,fun j hj=>⟨K.rd (h.ig j hj).1 fun hm q o' hA=>hD q ((h.ig j hj).2 hm q o' hA),(h.ig j hj).2⟩,h.a1,h.a2⟩
theorem own_mono {w:World} {b b' size:Nat} {e:TypeId} {v:Value} {n:Nat} {xs:List Value} (h:w.ownsRow b' e size v n xs) (hb:b≤b'):w.ownsRow b e size v n xs:=by
 refine⟨h.1,?_⟩
 rcases h.2 with h0|⟨g,cap,cur,e1,e2,rest⟩
 ·exact .inl h0
 ·exact .inr ⟨g,cap,cur,e1,Nat.le_trans hb e2,rest⟩
end
end StoZ
namespace StoK
open Go.RowKit Kit Byt Mem RecM StgM BitM ShaM
def bk (xs:List Nat) (j:Nat):List Nat:=(xs.drop (16*j)).take 16++List.replicate (16-(xs.length-16*j)) 0
theorem bk_len (xs:List Nat) (j:Nat):(bk xs j).length=16:=by
 unfold bk
 rw [List.length_append,List.length_replicate,List.length_take,List.length_drop]
 omega
theorem bk_ne (xs:List Nat) (j:Nat):bk xs j≠[]:=fun e=>by have:=bk_len xs j;rw [e] at this;simp at this
theorem bk_by {xs:List Nat} (h:by256 xs) (j:Nat):by256 (bk xs j):=fun c hc=>by
 unfold bk at hc
 rcases List.mem_append.1 hc with h1|h1
 ·exact h c (List.mem_of_mem_drop (List.mem_of_mem_take h1))
 ·rw [(List.mem_replicate.1 h1).2];omega
structure Ld (xs:List Nat) (q:Int) (j:Nat) (x:Rf):Prop where
 wf:x.wf
 has:x.has=true
 s:x.g.s=q
 z:x.g.z=(xs.length:Nat)
 each:∀i,i<x.bl.length→x.bl.getD i []=if i<j then bk xs i else []
section
variable {xs:List Nat} {q:Int} {j:Nat} {x:Rf}
theorem Ld.len (h:Ld xs q j x):x.bl.length=blocks (xs.length:Nat):=by rw [h.wf.len h.has,h.z]
theorem fresh_right {z:Int} (hq:1≤q∧q≤65535) (h:1≤z∧z≤160):(fresh q z).right:=by
 refine⟨hq,h,by show (0:Int)≤0;omega,?_⟩
 show (0:Int)<2 ^ blocks z
 have h2:1≤2 ^ blocks z:=Nat.one_le_two_pow
 have h3:((2 ^ blocks z:Nat):Int)=(2:Int) ^ blocks z:=by simp
 omega
theorem ld_first (x:Rf) (hq:1≤q∧q≤65535) (h:1≤xs.length∧xs.length≤160):(rB x q (xs.length:Nat)).2=0∧Ld xs q 0 (rB x q (xs.length:Nat)).1:=by
 have hr:=fresh_right (z:=((xs.length:Nat):Int)) hq (by omega)
 unfold rB
 rw [if_pos hr]
 refine⟨rfl,fresh_wf hr,rfl,rfl,rfl,fun k hk=>?_⟩
 have hk':k<blocks (xs.length:Nat):=by simpa using hk
 show (List.replicate (blocks (xs.length:Nat)) []).getD k []=_
 rw [List.getD_eq_getElem?_getD,List.getElem?_replicate,if_pos hk',if_neg (by omega)]
 rfl
theorem ld_put (h:Ld xs q j x) (hj:j<x.bl.length):(rP x q j (bk xs j)).2=0∧Ld xs q (j+1) (rP x q j (bk xs j)).1:=by
 have hb':x.bl.getD j []=[]:=by rw [h.each j hj,if_neg (by omega)]
 have hw:StgA.rW x q j (bk xs j).length=0:=by
  unfold StgA.rW
  rw [if_neg (by rw [h.has];simp),if_neg (by rw [h.s];simp),if_neg (by omega),if_neg (by rw [bk_len];simp)]
 rw [StgC.rP_same hw,show ((j:Int)).toNat=j from by omega,if_neg (by rw [hb'];simp)]
 have hy:=rP_yes h.wf h.has hj (bk_len xs j) hb'
 refine⟨rfl,hy.2,rfl,h.s,h.z,fun i hi=>?_⟩
 have hi':i<x.bl.length:=by simpa using hi
 show (x.bl.set j (bk xs j)).getD i []=_
 rw [StgP.getD_set _ hj]
 by_cases e:j=i
 ·rw [if_pos e,if_pos (by omega),e]
 ·rw [if_neg e,h.each i hi']
  by_cases e2:i<j
  ·rw [if_pos e2,if_pos (by omega)]
  ·rw [if_neg e2,if_neg (by omega)]
def cat (xs:List Nat):Nat→List Nat
 | 0=>[]
 | m+1=>cat xs m++bk xs m
theorem cat_eq (xs:List Nat) (m:Nat):cat xs m=xs.take (16*m)++List.replicate (16*m-xs.length) 0:=by
 induction m with
 | zero=>simp [cat]
 | succ m ih=>
   show cat xs m++bk xs m=_
   rw [ih]
   unfold bk
   have e:xs.take (16*(m+1))=xs.take (16*m)++(xs.drop (16*m)).take 16:=by
    rw [show 16*(m+1)=16*m+16 from by omega,List.take_add]
   rw [e]
   by_cases h:16*m≤xs.length
   ·rw [show 16*m-xs.length=0 from by omega,List.replicate_zero,List.append_nil,List.append_assoc]
    congr 2
    rw [show 16-(xs.length-16*m)=16*(m+1)-xs.length from by omega]
   ·have hd:xs.drop (16*m)=[]:=List.drop_eq_nil_of_le (by omega)
    rw [hd,List.take_nil,List.nil_append,List.append_nil,List.append_assoc,List.replicate_append_replicate]
    congr 2
    omega
theorem ld_all (h:Ld xs q (blocks (xs.length:Nat)) x) (hn:1≤xs.length∧xs.length≤160):rY x=(xs,0):=by
 have hl:=h.len
 have hall:∀k,k<x.bl.length→x.bl.getD k []=bk xs k:=fun k hk=>by rw [h.each k hk,if_pos (by omega)]
 have hflat:x.bl.flatten=cat xs x.bl.length:=by
  have e:∀m,m≤x.bl.length→(x.bl.take m).flatten=cat xs m:=by
   intro m
   induction m with
   | zero=>intro _;simp [cat]
   | succ m ih=>
     intro hm
     rw [StgD.flat_next (by omega),ih (by omega),hall m (by omega)]
     rfl
  have:=e x.bl.length (Nat.le_refl _)
  rwa [List.take_length] at this
 unfold rY
 rw [if_neg (by rw [h.has];simp),if_neg,hflat,hl,h.z,cat_eq]
 ·have hb:xs.length≤16*blocks (xs.length:Nat):=by unfold blocks;omega
  rw [List.take_of_length_le hb]
  show ((xs++_).take ((xs.length:Nat):Int).toNat,(0:Int))=_
  rw [show (((xs.length:Nat):Int)).toNat=xs.length from by omega,List.take_left]
 intro hm
 obtain⟨i,hi,e⟩:=List.getElem_of_mem hm
 have h1:=hall i hi
 rw [List.getD_eq_getElem?_getD,List.getElem?_eq_getElem hi] at h1
 exact bk_ne xs i (h1.symm.trans e)
def ldX (xs:List Nat) (q:Int) (x:Rf):Nat→Rf
 | 0=>(rB x q (xs.length:Nat)).1
 | j+1=>(rP (ldX xs q x j) q j (bk xs j)).1
theorem ldx (x:Rf) (hq:1≤q∧q≤65535) (hn:1≤xs.length∧xs.length≤160):∀j,j≤blocks (xs.length:Nat)→Ld xs q j (ldX xs q x j)
 | 0,_=>(ld_first x hq hn).2
 | j+1,hj=>by
   have h:=ldx x hq hn j (by omega)
   exact (ld_put h (by rw [h.len];omega)).2
end
end StoK
namespace ImgC
open Go.RowKit Kit Byt Mem ImgA Beq ImgB
theorem ret_row {P:Program} {fn:Func} {p:Tmp} {ty:TypeId} {R:Ending→World→Prop} {a:Act} {w:World} {g:Nat} {t:TypeId} {cs:Array Value} {fr:Nat×Nat} {d:TypeDesc} (h:fn.results = #[.cell p ty]) (h0:a.defers=[])
 (hp:a.tmps.getD p undef=.pointer (some ⟨g,0,none⟩)) (hg:w.heap[g]?=some (.cells cs t fr)) (hu:P.underlying ty=some d) (hd:(match d with | .struct _ | .array _ _=>true|_=>false)=true) (hi:(P.info? ty).map (·.size)=some cs.size)
 (hR:R (.returned (.agg cs)) w):bodyPost P fn R .ret a w:=
 bodyPost_ret (results_cell_row h _ w g t cs fr d hp hg hu hd hi) h0 hR
end ImgC
namespace ImgR
open Go.RowKit Kit NumA NumB Mem TabR TxtR ImgA
def zeroI:List Value:=[.int .i64 0,.int .i64 0,.int .i64 0,.int .i64 0,.int .i64 0,.int .i64 0,.int .i64 0,.slice none 0 0]
theorem size_image:(Tryz.prog.info? 54).map (·.size)=some 8:=by kernel_rfl
structure G0 (w:World) (g rb:Nat) (xs:List Int) (x:Int) (wr:World):Prop where
 b2:Blk wr g 54 zeroI
 st:St wr rb xs x
 bel:Below w.heap.size w wr
 l2:w.heap.size≤g
 lr:g<rb
 ok:∀u ∈ xs,0≤u∧u≤255
section
variable {w wr w':World} {g rb:Nat} {xs:List Int} {x:Int}
theorem G0.grown {ys:List Int} {y:Int} (h:G0 w g rb xs x wr) (h1:St w' rb ys y) (hg:wr.grownBy w' (some rb)) (ho:∀u ∈ ys,0≤u∧u≤255):G0 w g rb ys y w':=by
 have l2:=h.l2
 have lr:=h.lr
 have k1:Keep (fun i=>i=rb) wr w':=Keep.grown hg fun i hi=>by injection hi with hi;exact hi.symm
 exact⟨k1.blk h.b2 (by show ¬g=rb;omega),h1,h.bel.trans (k1.below (fun i hi=>by have:i=rb:=hi;omega) h.bel.size),h.l2,h.lr,ho⟩
end
theorem num_v {k:Nat} {q:Int} (hq:wd q=k) {w wr:World} {g rb:Nat} {xs ys:List Int} {x y v:Int} (h:G0 w g rb xs x wr) (hr:rdN k xs x=(v,ys,y)) :
 Calls Tryz.prog 213 #[.pointer (some ⟨rb,0,none⟩),.int .i64 q] wr fun e w'=>e=.returned (.int .i64 v)∧G0 w g rb ys y w':=by
 refine (num_any rb q xs x wr h.st h.ok).mono ?_
 rintro e w' ⟨he,hs,hg⟩
 have ho:=rdN_bytes (k:=k) (e:=x) h.ok
 rw [hq,hr] at he hs
 rw [hr] at ho
 exact⟨he,h.grown hs hg ho⟩
theorem read_any (A:Option Addr) (n c:Nat) (xs:List Int) (w:World) (hR:Rd w A n c (u8s xs)) (h8:∀u ∈ xs,0≤u∧u≤255) (hl:n≤100000)
 {v1 v2 v3 v4 v5 v6 v7 e1 e2 e3 e4 e5 e6 e7 e8:Int} {x1 x2 x3 x4 x5 x6 x7 x8 cs:List Int}
 (r1:rdN 1 xs 0=(v1,x1,e1)) (r2:rdN 2 x1 e1=(v2,x2,e2)) (r3:rdN 2 x2 e2=(v3,x3,e3)) (r4:rdN 1 x3 e3=(v4,x4,e4)) (r5:rdN 1 x4 e4=(v5,x5,e5)) (r6:rdN 1 x5 e5=(v6,x6,e6)) (r7:rdN 1 x6 e6=(v7,x7,e7)) (r8:rtx x7 e7=(cs,x8,e8)) :
 Calls Tryz.prog 174 #[.slice A n c] w fun e w'=>∃B m d,e=.returned (.tuple #[.agg #[.int .i64 v1,.int .i64 v2,.int .i64 v3,.int .i64 v4,.int .i64 v5,.int .i64 v6,.int .i64 v7,.slice B m d],.int .i64 (endN x8 e8)])∧Rd w' B m d (u8s cs)∧Below w.heap.size w w'∧Newer w B m:=by
 have R1:=Hz r1
 have R2:=Hz r2
 have R3:=Hz r3
 have R4:=Hz r4
 have R5:=Hz r5
 have R6:=Hz r6
 have R7:=Hz r7
 have R8:=Hz r8
 have H8:=Hz h8
 have HB0:=Hz (Blk.new w 54 zeroI)
 have HR0:=Hz (hR.alloc (.cells #[.int .i64 0,.int .i64 0,.int .i64 0,.int .i64 0,.int .i64 0,.int .i64 0,.int .i64 0,.slice none 0 0] 54))
 have HL0:=Hz ((Below.refl w.heap.size w).alloc (Nat.le_refl _) (.cells #[.int .i64 0,.int .i64 0,.int .i64 0,.int .i64 0,.int .i64 0,.int .i64 0,.int .i64 0,.slice none 0 0] 54))
 clear hR h8 r1 r2 r3 r4 r5 r6 r7 r8
 go_enter Tryz.func174,Tryz.ntmps174
 go_wp2_with fail
 refine (TabR.read_any A n c xs _ HR0.out (by omega)).mono ?_
 rintro e w1 ⟨rb,rfl,hrb,hst,hb1⟩
 have HG0:=Hz (show G0 w w.heap.size rb xs 0 w1 from⟨HB0.out.below hb1,hst,HL0.out.trans (hb1.mono (by simp)),Nat.le_refl _,by simp at hrb;omega,H8.out⟩)
 clear hrb hst hb1 HB0 HR0 HL0
 go_wp2_with fail
 refine (num_v (k:=1) (q:=1) rfl HG0.out R1.out).mono ?_
 rintro e w2 ⟨rfl,hg1⟩
 have HG1:=Hz hg1
 clear hg1 HG0 R1
 go_wp2_with fail
 refine (num_v (k:=2) (q:=2) rfl HG1.out R2.out).mono ?_
 rintro e w3 ⟨rfl,hg2⟩
 have HG2:=Hz hg2
 clear hg2 HG1 R2
 go_wp2_with fail
 refine (num_v (k:=2) (q:=2) rfl HG2.out R3.out).mono ?_
 rintro e w4 ⟨rfl,hg3⟩
 have HG3:=Hz hg3
 clear hg3 HG2 R3
 go_wp2_with fail
 refine (num_v (k:=1) (q:=1) rfl HG3.out R4.out).mono ?_
 rintro e w5 ⟨rfl,hg4⟩
 have HG4:=Hz hg4
 clear hg4 HG3 R4
 go_wp2_with fail
 refine (num_v (k:=1) (q:=1) rfl HG4.out R5.out).mono ?_
 rintro e w6 ⟨rfl,hg5⟩
 have HG5:=Hz hg5
 clear hg5 HG4 R5
 go_wp2_with fail
 refine (num_v (k:=1) (q:=1) rfl HG5.out R6.out).mono ?_
 rintro e w7 ⟨rfl,hg6⟩
 have HG6:=Hz hg6
 clear hg6 HG5 R6
 go_wp2_with fail
 refine (num_v (k:=1) (q:=1) rfl HG6.out R7.out).mono ?_
 rintro e w8 ⟨rfl,hg7⟩
 have HG7:=Hz hg7
 clear hg7 HG6 R7
 go_wp2_with fail
 refine (TxtR.text_any rb x7 e7 w8 HG7.out.st HG7.out.ok).mono ?_
 rw [R8.out]
 rintro e w9 ⟨B,m,d,rfl,hr9,hs9,hg9,hq9⟩
 have k9:Keep (fun i=>i=rb) w8 w9:=Keep.grown hg9 fun i hi=>by injection hi with hi;exact hi.symm
 have HR9:=Hz hr9
 have HS9:=Hz hs9
 have HB9:=Hz (show Blk w9 w.heap.size 54 zeroI from k9.blk HG7.out.b2 (by show ¬w.heap.size=rb;have:=HG7.out.lr;omega))
 have HL9:=Hz (show Below w.heap.size w w9 from HG7.out.bel.trans (k9.below (fun i hi=>by have:i=rb:=hi;have:=HG7.out.lr;omega) HG7.out.bel.size))
 have HN9:=Hz (show 0<m→∀b o,B=some ⟨b,o,none⟩→w.heap.size<b from fun h b o hA=>by have:=hq9 h b o hA;have:=HG7.out.b2.lt;omega)
 have hlt9:w.heap.size<w9.heap.size:=by have h1:=HG7.out.b2.lt;have:=hg9.size;omega
 clear hr9 hs9 hg9 hq9 k9 HG7 R8 H8
 go_wp2_with fail
 have ba:Below w9.heap.size w9 (w9.alloc (.cells #[.int .i64 v1,.int .i64 v2,.int .i64 v3,.int .i64 v4,.int .i64 v5,.int .i64 v6,.int .i64 v7,.slice B m d] 54)):=(Below.refl _ _).alloc (Nat.le_refl _) _
 have HRb:=Hz (HR9.out.below ba)
 have HSb:=Hz (St.below HS9.out ba)
 have HBb:=Hz (HB9.out.below ba)
 have HLb:=Hz (HL9.out.trans (ba.mono HL9.out.size))
 have HNb:=Hz HN9.out
 have HXb:=Hz (Blk.new w9 54 [.int .i64 v1,.int .i64 v2,.int .i64 v3,.int .i64 v4,.int .i64 v5,.int .i64 v6,.int .i64 v7,.slice B m d])
 have hltb:w.heap.size≤(w9.alloc (.cells #[.int .i64 v1,.int .i64 v2,.int .i64 v3,.int .i64 v4,.int .i64 v5,.int .i64 v6,.int .i64 v7,.slice B m d] 54)).heap.size:=by simp;omega
 obtain⟨wb,hwb⟩:∃wb,wb=w9.alloc (.cells #[.int .i64 v1,.int .i64 v2,.int .i64 v3,.int .i64 v4,.int .i64 v5,.int .i64 v6,.int .i64 v7,.slice B m d] 54):=⟨_,rfl⟩
 replace HXb:=Hz (show Blk wb w9.heap.size 54 [.int .i64 v1,.int .i64 v2,.int .i64 v3,.int .i64 v4,.int .i64 v5,.int .i64 v6,.int .i64 v7,.slice B m d] from by rw [hwb];exact HXb.out)
 rw [←hwb] at HRb HSb HBb HLb hltb ⊢
 clear hwb ba HR9 HS9 HB9 HL9 HN9
 generalize w9.heap.size=gx at *
 have y0:=HXb.out.cell (i:=0) rfl
 have y1:=HXb.out.cell (i:=1) rfl
 have y2:=HXb.out.cell (i:=2) rfl
 have y3:=HXb.out.cell (i:=3) rfl
 have y4:=HXb.out.cell (i:=4) rfl
 have y5:=HXb.out.cell (i:=5) rfl
 have y6:=HXb.out.cell (i:=6) rfl
 have y7:=HXb.out.cell (i:=7) rfl
 refine wp_region_any (by kernel_rfl) ?_
 change wpAny _ _ _ _ _ _ _ (World.drew _)
 refine wpAny_take (i:=1) (v:=.pointer (some ⟨rb,0,none⟩)) rfl (by kernel_rfl) (by kernel_rfl) (by kernel_rfl) (fun _ _ _ h=>h) (Or.inl ⟨by rfl,fun w=>by go_simp⟩) ?_
 try simp only [Act.put,List.getElem_toArray,List.getElem_cons_succ,List.getElem_cons_zero,List.setIfInBounds_toArray,List.set_cons_zero,List.set_cons_succ]
 refine wpAny_ready (rs:=[0,2]) (by kernel_rfl) (by simp) ?_
 refine AllReady.cons rfl (fun K hK=>?_) (AllReady.cons rfl (fun K hK=>?_) AllReady.nil)
 ·rw [if_pos (by rfl)]
  go_simp
  refine hK _ _ ?_
  clear hK K
  try simp only [Act.put,List.getElem_toArray,List.getElem_cons_succ,List.getElem_cons_zero,List.setIfInBounds_toArray,List.set_cons_zero,List.set_cons_succ]
  refine wpAny_ready (rs:=[2]) (by kernel_rfl) (by simp) ?_
  refine AllReady.cons rfl (fun K hK=>?_) AllReady.nil
  rw [if_pos (by rfl)]
  go_simp
  refine (TabR.end_any rb x8 e8 wb.drew (show St wb.drew rb x8 e8 from HSb.out)).mono ?_
  rintro e w10 ⟨rfl,rfl⟩
  go_wp2_with fail
  try simp only [Act.put,List.getElem_toArray,List.getElem_cons_succ,List.getElem_cons_zero,List.setIfInBounds_toArray,List.set_cons_zero,List.set_cons_succ]
  refine wpAny_ready (rs:=[3]) (by kernel_rfl) (by simp) ?_
  refine AllReady.cons rfl (fun K hK=>?_) AllReady.nil
  rw [if_pos (by rfl)]
  refine wp_store_part 54 (.tmp 2) (.tmp 25) rfl w.heap.size 0 rfl (xs:=zeroI) [.int .i64 v1,.int .i64 v2,.int .i64 v3,.int .i64 v4,.int .i64 v5,.int .i64 v6,.int .i64 v7,.slice B m d] rfl (show Blk (World.drew _) _ _ _ from HBb.out) (by simp [zeroI]) size_image (by intro u hu;simp at hu;rcases hu with rfl|rfl|rfl|rfl|rfl|rfl|rfl|rfl <;> rfl) ?_
  rw [splice_all (by simp [zeroI])]
  intro w11 hB11 ho11
  refine hK _ _ ?_
  clear hK K
  try simp only [Act.put,List.getElem_toArray,List.getElem_cons_succ,List.getElem_cons_zero,List.setIfInBounds_toArray,List.set_cons_zero,List.set_cons_succ]
  refine wpAny_ready (rs:=[4]) (by kernel_rfl) (by simp) ?_
  refine AllReady.cons rfl (fun K hK=>?_) AllReady.nil
  rw [if_pos (by rfl)]
  go_simp
  refine hK _ _ ?_
  clear hK K
  try simp only [Act.put,List.getElem_toArray,List.getElem_cons_succ,List.getElem_cons_zero,List.setIfInBounds_toArray,List.set_cons_zero,List.set_cons_succ]
  refine wpAny_done (by kernel_rfl) ?_ _
  go_wp2
  have hBw:=hB11.out
  have k0:=hBw.cell (i:=0) rfl
  have k1:=hBw.cell (i:=1) rfl
  have k2:=hBw.cell (i:=2) rfl
  have k3:=hBw.cell (i:=3) rfl
  have k4:=hBw.cell (i:=4) rfl
  have k5:=hBw.cell (i:=5) rfl
  have k6:=hBw.cell (i:=6) rfl
  have k7:=hBw.cell (i:=7) rfl
  refine bodyPost_ret (v:=.tuple #[.agg #[.int .i64 v1,.int .i64 v2,.int .i64 v3,.int .i64 v4,.int .i64 v5,.int .i64 v6,.int .i64 v7,.slice B m d],.int .i64 (endN x8 e8)]) (by simp [results,Tryz.results174,go_sem,k0,k1,k2,k3,k4,k5,k6,k7]) rfl ?_
  have kp:Keep (fun i=>i=w.heap.size) wb w11:=Keep.only (Only.of_drew ho11.out) rfl
  exact⟨B,m,d,rfl,kp.rd HRb.out (fun h b o hA hk=>by have:=HNb.out h b o hA;have hk:b=w.heap.size:=hk;omega),(Only.of_drew ho11.out).below HLb.out (Nat.le_refl _) hltb,fun h b o hA=>Nat.le_of_lt (HNb.out h b o hA)⟩
 ·rw [if_pos (by rfl)]
  go_simp
  refine (TabR.end_any rb x8 e8 wb.drew (show St wb.drew rb x8 e8 from HSb.out)).mono ?_
  rintro e w10 ⟨rfl,rfl⟩
  go_wp2_with fail
  try simp only [Act.put,List.getElem_toArray,List.getElem_cons_succ,List.getElem_cons_zero,List.setIfInBounds_toArray,List.set_cons_zero,List.set_cons_succ]
  refine wpAny_ready (rs:=[0]) (by kernel_rfl) (by simp) ?_
  refine AllReady.cons rfl (fun K hK=>?_) AllReady.nil
  rw [if_pos (by rfl)]
  go_simp
  refine hK _ _ ?_
  clear hK K
  try simp only [Act.put,List.getElem_toArray,List.getElem_cons_succ,List.getElem_cons_zero,List.setIfInBounds_toArray,List.set_cons_zero,List.set_cons_succ]
  refine wpAny_ready (rs:=[3]) (by kernel_rfl) (by simp) ?_
  refine AllReady.cons rfl (fun K hK=>?_) AllReady.nil
  rw [if_pos (by rfl)]
  refine wp_store_part 54 (.tmp 2) (.tmp 25) rfl w.heap.size 0 rfl (xs:=zeroI) [.int .i64 v1,.int .i64 v2,.int .i64 v3,.int .i64 v4,.int .i64 v5,.int .i64 v6,.int .i64 v7,.slice B m d] rfl (show Blk (World.drew _) _ _ _ from HBb.out) (by simp [zeroI]) size_image (by intro u hu;simp at hu;rcases hu with rfl|rfl|rfl|rfl|rfl|rfl|rfl|rfl <;> rfl) ?_
  rw [splice_all (by simp [zeroI])]
  intro w11 hB11 ho11
  refine hK _ _ ?_
  clear hK K
  try simp only [Act.put,List.getElem_toArray,List.getElem_cons_succ,List.getElem_cons_zero,List.setIfInBounds_toArray,List.set_cons_zero,List.set_cons_succ]
  refine wpAny_ready (rs:=[4]) (by kernel_rfl) (by simp) ?_
  refine AllReady.cons rfl (fun K hK=>?_) AllReady.nil
  rw [if_pos (by rfl)]
  go_simp
  refine hK _ _ ?_
  clear hK K
  try simp only [Act.put,List.getElem_toArray,List.getElem_cons_succ,List.getElem_cons_zero,List.setIfInBounds_toArray,List.set_cons_zero,List.set_cons_succ]
  refine wpAny_done (by kernel_rfl) ?_ _
  go_wp2
  have hBw:=hB11.out
  have k0:=hBw.cell (i:=0) rfl
  have k1:=hBw.cell (i:=1) rfl
  have k2:=hBw.cell (i:=2) rfl
  have k3:=hBw.cell (i:=3) rfl
  have k4:=hBw.cell (i:=4) rfl
  have k5:=hBw.cell (i:=5) rfl
  have k6:=hBw.cell (i:=6) rfl
  have k7:=hBw.cell (i:=7) rfl
  refine bodyPost_ret (v:=.tuple #[.agg #[.int .i64 v1,.int .i64 v2,.int .i64 v3,.int .i64 v4,.int .i64 v5,.int .i64 v6,.int .i64 v7,.slice B m d],.int .i64 (endN x8 e8)]) (by simp [results,Tryz.results174,go_sem,k0,k1,k2,k3,k4,k5,k6,k7]) rfl ?_
  have kp:Keep (fun i=>i=w.heap.size) wb w11:=Keep.only (Only.of_drew ho11.out) rfl
  exact⟨B,m,d,rfl,kp.rd HRb.out (fun h b o hA hk=>by have:=HNb.out h b o hA;have hk:b=w.heap.size:=hk;omega),(Only.of_drew ho11.out).below HLb.out (Nat.le_refl _) hltb,fun h b o hA=>Nat.le_of_lt (HNb.out h b o hA)⟩
end ImgR
end Go.Proofs.YtkepomnbhnnliaaGreatDoor
