/- Parts of the proof, each under the conditions that it names. -/
import Derived.Test.YtecncggeomcdbaaGreatDoorT06
import Derived.Laws.BitsAllLaws
import Derived.Laws.BitsLemmas
set_option maxRecDepth 100000
set_option maxHeartbeats 12800000
namespace Go.Proofs.YtecncggeomcdbaaGreatDoor
open Go.RowKit
namespace ImgR
open Kit NumA Mem TabR TxtR
def zeroI:List Value:=[.int .i64 0,.int .i64 0,.int .i64 0,.int .i64 0,.int .i64 0,.int .i64 0,.int .i64 0,.slice none 0 0]
theorem Q8:(Tryz.prog.info? 40).map (·.size)=some 8:=by kernel_rfl
structure G0 (w:World) (g rb:Nat) (xs:List Int) (x:Int) (wr:World):Prop where
 b2:Blk wr g 40 zeroI
 st:St wr rb xs x
 bel:Bw w wr
 l2:w.heap.size≤g
 lr:g<rb
 ok:∀u ∈ xs,0≤u∧u≤255
section
variable {w wr w':World} {g rb:Nat} {xs:List Int} {x:Int}
theorem G0.grown {ys:List Int} {y:Int} (h:G0 w g rb xs x wr) (h1:St w' rb ys y) (hg:wr.grownBy w' (some rb)) (ho:∀u ∈ ys,0≤u∧u≤255):G0 w g rb ys y w':=by
 have l2:=h.l2
 have lr:=h.lr
 have k1:Keep (fun i=>i=rb) wr w':=Keep.grown hg fun i hi=>by injection hi with hi;exact hi.symm
 exact⟨k1.blk h.b2 (by show ¬g=rb;omega),h1,h.bel.trans (k1.below (fun i hi=>by have:i=rb:=hi;omega) h.bel.size),h.l2,h.lr,ho⟩
end
theorem num_v {k:Nat} {q:Int} (hq:wd q=k) {w wr:World} {g rb:Nat} {xs ys:List Int} {x y v:Int} (h:G0 w g rb xs x wr) (hr:rdN k xs x=(v,ys,y)) :
 Calls Tryz.prog 174 #[.pointer (some ⟨rb,0,none⟩),.int .i64 q] wr fun e w'=>e=.returned (.int .i64 v)∧G0 w g rb ys y w':=by
 refine (num_any rb q xs x wr h.st h.ok).mono ?_
 rintro e w' ⟨he,hs,hg⟩
 have ho:=Jl (k:=k) (e:=x) h.ok
 rw [hq,hr] at he hs
 rw [hr] at ho
 exact⟨he,h.grown hs hg ho⟩
theorem Vn (A:Option Addr) (n c:Nat) (xs:List Int) (w:World) (hR:Rd w A n c (u8s xs)) (h8:∀u ∈ xs,0≤u∧u≤255) (hl:n≤100000)
 {v1 v2 v3 v4 v5 v6 v7 e1 e2 e3 e4 e5 e6 e7 e8:Int} {x1 x2 x3 x4 x5 x6 x7 x8 cs:List Int}
 (r1:rdN 1 xs 0=(v1,x1,e1)) (r2:rdN 2 x1 e1=(v2,x2,e2)) (r3:rdN 2 x2 e2=(v3,x3,e3)) (r4:rdN 1 x3 e3=(v4,x4,e4)) (r5:rdN 1 x4 e4=(v5,x5,e5)) (r6:rdN 1 x5 e5=(v6,x6,e6)) (r7:rdN 1 x6 e6=(v7,x7,e7)) (r8:rtx x7 e7=(cs,x8,e8)) :
 Calls Tryz.prog 134 #[.slice A n c] w fun e w'=>∃B m d,e=.returned (.tuple #[.agg #[.int .i64 v1,.int .i64 v2,.int .i64 v3,.int .i64 v4,.int .i64 v5,.int .i64 v6,.int .i64 v7,.slice B m d],.int .i64 (endN x8 e8)])∧Rd w' B m d (u8s cs)∧Bw w w'∧Newer w B m:=by
 have R1:=Hz r1
 have R2:=Hz r2
 have R3:=Hz r3
 have R4:=Hz r4
 have R5:=Hz r5
 have R6:=Hz r6
 have R7:=Hz r7
 have R8:=Hz r8
 have H8:=Hz h8
 have HB0:=Hz (Blk.new w 40 zeroI)
 have HR0:=Hz (hR.alloc (.cells #[.int .i64 0,.int .i64 0,.int .i64 0,.int .i64 0,.int .i64 0,.int .i64 0,.int .i64 0,.slice none 0 0] 40))
 have HL0:=Hz ((Mb w.heap.size w).alloc (Mr _) (.cells #[.int .i64 0,.int .i64 0,.int .i64 0,.int .i64 0,.int .i64 0,.int .i64 0,.int .i64 0,.slice none 0 0] 40))
 clear hR h8 r1 r2 r3 r4 r5 r6 r7 r8
 go_enter Tryz.func134,Tryz.ntmps134
 go_wp2_with fail
 refine (TabR.Vn A n c xs _ HR0.o (by omega)).mono ?_
 rintro e w1 ⟨rb,rfl,hrb,hst,hb1⟩
 have HG0:=Hz (show G0 w w.heap.size rb xs 0 w1 from⟨HB0.o.below hb1,hst,HL0.o.trans (hb1.mono (by simp)),Mr _,by simp at hrb;omega,H8.o⟩)
 clear hrb hst hb1 HB0 HR0 HL0
 go_wp2_with fail
 refine (num_v (k:=1) (q:=1) rfl HG0.o R1.o).mono ?_
 rintro e w2 ⟨rfl,hg1⟩
 have HG1:=Hz hg1
 clear hg1 HG0 R1
 go_wp2_with fail
 refine (num_v (k:=2) (q:=2) rfl HG1.o R2.o).mono ?_
 rintro e w3 ⟨rfl,hg2⟩
 have HG2:=Hz hg2
 clear hg2 HG1 R2
 go_wp2_with fail
 refine (num_v (k:=2) (q:=2) rfl HG2.o R3.o).mono ?_
 rintro e w4 ⟨rfl,hg3⟩
 have HG3:=Hz hg3
 clear hg3 HG2 R3
 go_wp2_with fail
 refine (num_v (k:=1) (q:=1) rfl HG3.o R4.o).mono ?_
 rintro e w5 ⟨rfl,hg4⟩
 have HG4:=Hz hg4
 clear hg4 HG3 R4
 go_wp2_with fail
 refine (num_v (k:=1) (q:=1) rfl HG4.o R5.o).mono ?_
 rintro e w6 ⟨rfl,hg5⟩
 have HG5:=Hz hg5
 clear hg5 HG4 R5
 go_wp2_with fail
 refine (num_v (k:=1) (q:=1) rfl HG5.o R6.o).mono ?_
 rintro e w7 ⟨rfl,hg6⟩
 have HG6:=Hz hg6
 clear hg6 HG5 R6
 go_wp2_with fail
 refine (num_v (k:=1) (q:=1) rfl HG6.o R7.o).mono ?_
 rintro e w8 ⟨rfl,hg7⟩
 have HG7:=Hz hg7
 clear hg7 HG6 R7
 go_wp2_with fail
 refine (TxtR.K8 rb x7 e7 w8 HG7.o.st HG7.o.ok).mono ?_
 rw [R8.o]
 rintro e w9 ⟨B,m,d,rfl,hr9,hs9,hg9,hq9⟩
 have k9:Keep (fun i=>i=rb) w8 w9:=Keep.grown hg9 fun i hi=>by injection hi with hi;exact hi.symm
 have HR9:=Hz hr9
 have HS9:=Hz hs9
 have HB9:=Hz (show Blk w9 w.heap.size 40 zeroI from k9.blk HG7.o.b2 (by show ¬w.heap.size=rb;have:=HG7.o.lr;omega))
 have HL9:=Hz (show Bw w w9 from HG7.o.bel.trans (k9.below (fun i hi=>by have:i=rb:=hi;have:=HG7.o.lr;omega) HG7.o.bel.size))
 have HN9:=Hz (show 0<m→∀b o,B=some ⟨b,o,none⟩→w.heap.size<b from fun h b o hA=>by have:=hq9 h b o hA;have:=HG7.o.b2.lt;omega)
 have hlt9:w.heap.size<w9.heap.size:=by have h1:=HG7.o.b2.lt;have:=hg9.size;omega
 clear hr9 hs9 hg9 hq9 k9 HG7 R8 H8
 go_wp2_with fail
 have ba:Bw w9 (w9.alloc (.cells #[.int .i64 v1,.int .i64 v2,.int .i64 v3,.int .i64 v4,.int .i64 v5,.int .i64 v6,.int .i64 v7,.slice B m d] 40)):=(Mb _ _).alloc (Mr _) _
 have HRb:=Hz (HR9.o.below ba)
 have HSb:=Hz (St.below HS9.o ba)
 have HBb:=Hz (HB9.o.below ba)
 have HLb:=Hz (HL9.o.trans (ba.mono HL9.o.size))
 have HNb:=Hz HN9.o
 have HXb:=Hz (Blk.new w9 40 [.int .i64 v1,.int .i64 v2,.int .i64 v3,.int .i64 v4,.int .i64 v5,.int .i64 v6,.int .i64 v7,.slice B m d])
 have hltb:w.heap.size≤(w9.alloc (.cells #[.int .i64 v1,.int .i64 v2,.int .i64 v3,.int .i64 v4,.int .i64 v5,.int .i64 v6,.int .i64 v7,.slice B m d] 40)).heap.size:=by simp;omega
 obtain⟨wb,hwb⟩:∃wb,wb=w9.alloc (.cells #[.int .i64 v1,.int .i64 v2,.int .i64 v3,.int .i64 v4,.int .i64 v5,.int .i64 v6,.int .i64 v7,.slice B m d] 40):=⟨_,rfl⟩
 replace HXb:=Hz (show Blk wb w9.heap.size 40 [.int .i64 v1,.int .i64 v2,.int .i64 v3,.int .i64 v4,.int .i64 v5,.int .i64 v6,.int .i64 v7,.slice B m d] from by rw [hwb];exact HXb.o)
 rw [←hwb] at HRb HSb HBb HLb hltb ⊢
 clear hwb ba HR9 HS9 HB9 HL9 HN9
 generalize w9.heap.size=gx at *
 have y0:=HXb.o.cell (i:=0) rfl
 have y1:=HXb.o.cell (i:=1) rfl
 have y2:=HXb.o.cell (i:=2) rfl
 have y3:=HXb.o.cell (i:=3) rfl
 have y4:=HXb.o.cell (i:=4) rfl
 have y5:=HXb.o.cell (i:=5) rfl
 have y6:=HXb.o.cell (i:=6) rfl
 have y7:=HXb.o.cell (i:=7) rfl
 refine wp_region_any (by kernel_rfl) ?_
 change wpAny _ _ _ _ _ _ _ (World.drew _)
 refine wpAny_take (i:=1) (v:=.pointer (some ⟨rb,0,none⟩)) rfl (by kernel_rfl) (by kernel_rfl) (by kernel_rfl) (fun _ _ _ h=>h) (Or.inl ⟨by rfl,fun w=>by go_simp⟩) ?_
 try simp only [tq]
 refine wpAny_ready (rs:=[0,2]) (by kernel_rfl) (by simp) ?_
 refine AllReady.cons rfl (fun K hK=>?_) (AllReady.cons rfl (fun K hK=>?_) AllReady.nil)
 ·rw [if_pos (by rfl)]
  go_simp
  refine hK _ _ ?_
  clear hK K
  try simp only [tq]
  refine wpAny_ready (rs:=[2]) (by kernel_rfl) (by simp) ?_
  refine AllReady.cons rfl (fun K hK=>?_) AllReady.nil
  rw [if_pos (by rfl)]
  go_simp
  refine (TabR.end_any rb x8 e8 wb.drew (show St wb.drew rb x8 e8 from HSb.o)).mono ?_
  rintro e w10 ⟨rfl,rfl⟩
  go_wp2_with fail
  try simp only [tq]
  refine wpAny_ready (rs:=[3]) (by kernel_rfl) (by simp) ?_
  refine AllReady.cons rfl (fun K hK=>?_) AllReady.nil
  rw [if_pos (by rfl)]
  refine Zk 40 (.tmp 2) (.tmp 25) rfl w.heap.size 0 rfl (xs:=zeroI) [.int .i64 v1,.int .i64 v2,.int .i64 v3,.int .i64 v4,.int .i64 v5,.int .i64 v6,.int .i64 v7,.slice B m d] rfl (show Blk (World.drew _) _ _ _ from HBb.o) (by simp [zeroI]) Q8 (by intro u hu;simp at hu;rcases hu with rfl|rfl|rfl|rfl|rfl|rfl|rfl|rfl <;> rfl) ?_
  rw [Zt (by simp [zeroI])]
  intro w11 hB11 ho11
  refine hK _ _ ?_
  clear hK K
  try simp only [tq]
  refine wpAny_ready (rs:=[4]) (by kernel_rfl) (by simp) ?_
  refine AllReady.cons rfl (fun K hK=>?_) AllReady.nil
  rw [if_pos (by rfl)]
  go_simp
  refine hK _ _ ?_
  clear hK K
  try simp only [tq]
  refine wpAny_done (by kernel_rfl) ?_ _
  go_wp2
  have hBw:=hB11.o
  have k0:=hBw.cell (i:=0) rfl
  have k1:=hBw.cell (i:=1) rfl
  have k2:=hBw.cell (i:=2) rfl
  have k3:=hBw.cell (i:=3) rfl
  have k4:=hBw.cell (i:=4) rfl
  have k5:=hBw.cell (i:=5) rfl
  have k6:=hBw.cell (i:=6) rfl
  have k7:=hBw.cell (i:=7) rfl
  refine bodyPost_ret (v:=.tuple #[.agg #[.int .i64 v1,.int .i64 v2,.int .i64 v3,.int .i64 v4,.int .i64 v5,.int .i64 v6,.int .i64 v7,.slice B m d],.int .i64 (endN x8 e8)]) (by simp [results,Tryz.results134,go_sem,k0,k1,k2,k3,k4,k5,k6,k7]) rfl ?_
  have kp:Keep (fun i=>i=w.heap.size) wb w11:=Keep.only (Only.of_drew ho11.o) rfl
  exact⟨B,m,d,rfl,kp.rd HRb.o (fun h b o hA hk=>by have:=HNb.o h b o hA;have hk:b=w.heap.size:=hk;omega),(Only.of_drew ho11.o).below HLb.o (Mr _) hltb,fun h b o hA=>Nat.le_of_lt (HNb.o h b o hA)⟩
 ·rw [if_pos (by rfl)]
  go_simp
  refine (TabR.end_any rb x8 e8 wb.drew (show St wb.drew rb x8 e8 from HSb.o)).mono ?_
  rintro e w10 ⟨rfl,rfl⟩
  go_wp2_with fail
  try simp only [tq]
  refine wpAny_ready (rs:=[0]) (by kernel_rfl) (by simp) ?_
  refine AllReady.cons rfl (fun K hK=>?_) AllReady.nil
  rw [if_pos (by rfl)]
  go_simp
  refine hK _ _ ?_
  clear hK K
  try simp only [tq]
  refine wpAny_ready (rs:=[3]) (by kernel_rfl) (by simp) ?_
  refine AllReady.cons rfl (fun K hK=>?_) AllReady.nil
  rw [if_pos (by rfl)]
  refine Zk 40 (.tmp 2) (.tmp 25) rfl w.heap.size 0 rfl (xs:=zeroI) [.int .i64 v1,.int .i64 v2,.int .i64 v3,.int .i64 v4,.int .i64 v5,.int .i64 v6,.int .i64 v7,.slice B m d] rfl (show Blk (World.drew _) _ _ _ from HBb.o) (by simp [zeroI]) Q8 (by intro u hu;simp at hu;rcases hu with rfl|rfl|rfl|rfl|rfl|rfl|rfl|rfl <;> rfl) ?_
  rw [Zt (by simp [zeroI])]
  intro w11 hB11 ho11
  refine hK _ _ ?_
  clear hK K
  try simp only [tq]
  refine wpAny_ready (rs:=[4]) (by kernel_rfl) (by simp) ?_
  refine AllReady.cons rfl (fun K hK=>?_) AllReady.nil
  rw [if_pos (by rfl)]
  go_simp
  refine hK _ _ ?_
  clear hK K
  try simp only [tq]
  refine wpAny_done (by kernel_rfl) ?_ _
  go_wp2
  have hBw:=hB11.o
  have k0:=hBw.cell (i:=0) rfl
  have k1:=hBw.cell (i:=1) rfl
  have k2:=hBw.cell (i:=2) rfl
  have k3:=hBw.cell (i:=3) rfl
  have k4:=hBw.cell (i:=4) rfl
  have k5:=hBw.cell (i:=5) rfl
  have k6:=hBw.cell (i:=6) rfl
  have k7:=hBw.cell (i:=7) rfl
  refine bodyPost_ret (v:=.tuple #[.agg #[.int .i64 v1,.int .i64 v2,.int .i64 v3,.int .i64 v4,.int .i64 v5,.int .i64 v6,.int .i64 v7,.slice B m d],.int .i64 (endN x8 e8)]) (by simp [results,Tryz.results134,go_sem,k0,k1,k2,k3,k4,k5,k6,k7]) rfl ?_
  have kp:Keep (fun i=>i=w.heap.size) wb w11:=Keep.only (Only.of_drew ho11.o) rfl
  exact⟨B,m,d,rfl,kp.rd HRb.o (fun h b o hA hk=>by have:=HNb.o h b o hA;have hk:b=w.heap.size:=hk;omega),(Only.of_drew ho11.o).below HLb.o (Mr _) hltb,fun h b o hA=>Nat.le_of_lt (HNb.o h b o hA)⟩
end ImgR
namespace ImgG
open Kit Byt Mem Beq ShaM ShaE ImgA ImgB ImgS ImgR
theorem Rd.drop {w:World} {g o n c:Nat} {xs:List Value} (h:Rd w (some ⟨g,o,none⟩) n c xs) {k:Nat} (hk:k≤n):Rd w (some ⟨g,o+k,none⟩) (n-k) (c-k) (xs.drop k):=TabR.Rd.drop h hk
theorem has_yes (b o n c:Nat) (B:Option Addr) (d:Nat) (ys:List Nat) (w:World) (hR:Rd w (some ⟨b,o,none⟩) n c (u8n ys)) (hx:by256 ys) (hP:Rd w B 2 d (u8n [76,73])) (h2:2≤ys.length) (ht:ys.take 2=[76,73]) :
 Calls Tryz.prog 172 #[.slice (some ⟨b,o,none⟩) n c,.slice B 2 d] w fun e w'=>e=.returned (.bool true)∧w=w':=by
 have hn:ys.length=n:=Rd.nats hR
 have hc:=hR.le
 have hc2:=hR.cap
 have hq:=Jh (some ⟨b,o,none⟩) B 2 2 c d [76,73] [76,73] w (by rw [←ht];have:=hR.take (k:=2) (by omega);simpa [u8n,List.map_take] using this) hP (by intro u hu;simp at hu;omega) (by intro u hu;simp at hu;omega)
 rw [decide_eq_true rfl] at hq
 have HQ:=Hz hq
 clear hq hR hP ht hx
 have k0:(2:Int)≤(n:Int):=by omega
 have k1:(2:Int)≤(c:Int):=by omega
 have k2:2≤c:=by omega
 go_enter Tryz.func172,Tryz.ntmps172
 go_wp2_with (go_at_call 132;refine HQ.o.mono ?_;rintro e w' ⟨rfl,rfl⟩)
 go_ret
 exact⟨rfl,rfl⟩
theorem Gq (b o n c:Nat) (B:Option Addr) (d:Nat) (ys:List Nat) (w:World) (hR:Rd w (some ⟨b,o,none⟩) n c (u8n ys)) (hx:by256 ys) (hP:Rd w B 2 d (u8n [76,73])) (h2:2≤ys.length) (ht:ys.take 2=[76,73]) :
 Calls Tryz.prog 133 #[.slice (some ⟨b,o,none⟩) n c,.slice B 2 d] w fun e w'=>∃A m k,e=.returned (.tuple #[.slice A m k,.bool true])∧Rd w A m k (u8n (ys.drop 2))∧w=w':=by
 have hn:ys.length=n:=Rd.nats hR
 have hc:=hR.le
 have hc2:=hR.cap
 have HH:=Hz (has_yes b o n c B d ys w hR hx hP h2 ht)
 have HD:=Hz (show Rd w (some ⟨b,o+2,none⟩) (n-2) (c-2) (u8n (ys.drop 2)) from by have:=Rd.drop hR (k:=2) (by omega);simpa [u8n,List.map_drop] using this)
 clear hR hP ht hx
 have k0:(2:Int)≤(n:Int):=by omega
 have k1:(2:Int)≤(c:Int):=by omega
 have k2:2≤n:=by omega
 go_enter Tryz.func133,Tryz.ntmps133
 go_wp2_with (go_at_call 172;refine HH.o.mono ?_;rintro e w' ⟨rfl,rfl⟩)
 ·have e:c=2:=by assumption
  subst e
  go_ret2
  have hn2:n=2:=by omega
  have hd:ys.drop 2=[]:=List.drop_of_length_le (by omega)
  exact⟨_,_,_,rfl,by rw [hd,hn2];exact Rd.empty w _ (by omega),rfl⟩
 ·go_ret2
  exact⟨_,_,_,rfl,HD.o,rfl⟩
theorem J6:∀u ∈ zeroI,u.oneCell'=true:=by
 intro u hu
 simp [zeroI] at hu
 rcases hu with rfl|rfl <;> rfl
def Gt (w:World) (v:Value) (x:Int) (e:Ending) (w':World):Prop:=e=.returned (.tuple #[v,.int .i64 x])∧Bw w w'
@[reducible] def zeroV:Value:=.agg #[.int .i64 0,.int .i64 0,.int .i64 0,.int .i64 0,.int .i64 0,.int .i64 0,.int .i64 0,.slice none 0 0]
theorem own0 (w:World):Blk (w.alloc (.cells #[.int .i64 0,.int .i64 0,.int .i64 0,.int .i64 0,.int .i64 0,.int .i64 0,.int .i64 0,.slice none 0 0] 40)) w.heap.size 40 zeroI:=Blk.new w _ zeroI
theorem get_short (A:Option Addr) (n c:Nat) (w:World) (hl:n<36):Calls Tryz.prog 90 #[.slice A n c] w (Gt w zeroV 1):=by
 have HB0:=Hz (own0 w)
 have HL0:=Hz ((Mb w.heap.size w).alloc (Mr _) (.cells #[.int .i64 0,.int .i64 0,.int .i64 0,.int .i64 0,.int .i64 0,.int .i64 0,.int .i64 0,.slice none 0 0] 40))
 have h36:(n:Int)<36:=by omega
 go_enter Tryz.func90,Tryz.ntmps90
 go_wp2_with (refine Qq rfl 40 (.tmp 2) (.tmp 12) rfl w.heap.size rfl zeroI rfl HB0.o rfl Q8 J6 ?_;intro w11 hB11 ho11)
 have k0:=hB11.o.cell (i:=0) rfl
 have k1:=hB11.o.cell (i:=1) rfl
 have k2:=hB11.o.cell (i:=2) rfl
 have k3:=hB11.o.cell (i:=3) rfl
 have k4:=hB11.o.cell (i:=4) rfl
 have k5:=hB11.o.cell (i:=5) rfl
 have k6:=hB11.o.cell (i:=6) rfl
 have k7:=hB11.o.cell (i:=7) rfl
 refine bodyPost_ret (v:=.tuple #[.agg #[.int .i64 0,.int .i64 0,.int .i64 0,.int .i64 0,.int .i64 0,.int .i64 0,.int .i64 0,.slice none 0 0],.int .i64 1]) (by simp [results,Tryz.results90,go_sem,k0,k1,k2,k3,k4,k5,k6,k7]) rfl ?_
 exact⟨rfl,ho11.o.below HL0.o (Mr _) (by simp)⟩
theorem get_bad (A:Option Addr) (n c:Nat) (ys:List Nat) (w:World) (hT:Tab w) (hR:Rd w A n c (u8n ys)) (hx:by256 ys) (hl:36≤n) (hm:n≤100000) (hne:ys≠closed (ys.take (n-36))):Calls Tryz.prog 90 #[.slice A n c] w (Gt w zeroV 10):=by
 have hn:ys.length=n:=Rd.nats hR
 have hc:=hR.le
 have hc2:=hR.cap
 obtain⟨b,o,rfl,_,_⟩:=hR.2.2.2 (by omega)
 have HB0:=Hz (own0 w)
 have HL0:=Hz ((Mb w.heap.size w).alloc (Mr _) (.cells #[.int .i64 0,.int .i64 0,.int .i64 0,.int .i64 0,.int .i64 0,.int .i64 0,.int .i64 0,.slice none 0 0] 40))
 have HT:=Hz hT
 have HR:=Hz hR
 have HN:=Hz hn
 have hzt:by256 (ys.take (n-36)):=fun u hu=>hx u (List.mem_of_mem_take hu)
 have HZ:=Hz (show Rd w (some ⟨b,o,none⟩) (n-36) c (u8n (ys.take (n-36))) from by have:=hR.take (k:=n-36) (by omega);simpa [u8n,List.map_take] using this)
 have HS:=Hz (fun w' (hb:Bw w w')=>sealed_any (some ⟨b,o,none⟩) (n-36) c (ys.take (n-36)) w' (hT.below hb hT.1) (HZ.o.below hb) hzt (by simp;omega))
 have hzc:by256 (closed (ys.take (n-36))):=closed_lt hzt
 have HQ:=Hz (fun w' (hb:Bw w w') (B:Option Addr) (m d:Nat) (hB:Rd w' B m d (u8n (closed (ys.take (n-36)))))=>Jh (some ⟨b,o,none⟩) B n m c d ys _ w' (hR.below hb) hB hx hzc)
 rw [decide_eq_false hne] at HQ
 have h36 : ¬(n:Int)<36:=by omega
 have g0:(0:Int)≤(n:Int)-36:=by omega
 have g1:(n:Int)-36≤(c:Int):=by omega
 have g2:((n:Int)-36).toNat=n-36:=by omega
 clear hT hR hn hne hzt hzc
 obtain⟨zs,hzs⟩:∃zs,zs=closed (ys.take (n-36)):=⟨_,rfl⟩
 rw [←hzs] at HS HQ
 clear hzs
 go_enter Tryz.func90,Tryz.ntmps90
 go_wp2_with fail
 refine (HS.o _ HL0.o).mono ?_
 rintro e w2 ⟨B,m,d,rfl,ho2,hb2⟩
 have HL2:=Hz (HL0.o.trans (hb2.mono (by simp)))
 have HB2:=Hz (HB0.o.below hb2)
 have HO2:=Hz (Rd.own ho2)
 clear ho2 hb2 HL0 HB0
 go_wp2_with fail
 refine (HQ.o _ HL2.o B m d HO2.o).mono ?_
 rintro e w3 ⟨rfl,rfl⟩
 go_wp2_with (refine Qq rfl 40 (.tmp 2) (.tmp 23) rfl w.heap.size rfl zeroI rfl HB2.o rfl Q8 J6 ?_;intro w11 hB11 ho11)
 have k0:=hB11.o.cell (i:=0) rfl
 have k1:=hB11.o.cell (i:=1) rfl
 have k2:=hB11.o.cell (i:=2) rfl
 have k3:=hB11.o.cell (i:=3) rfl
 have k4:=hB11.o.cell (i:=4) rfl
 have k5:=hB11.o.cell (i:=5) rfl
 have k6:=hB11.o.cell (i:=6) rfl
 have k7:=hB11.o.cell (i:=7) rfl
 refine bodyPost_ret (v:=.tuple #[.agg #[.int .i64 0,.int .i64 0,.int .i64 0,.int .i64 0,.int .i64 0,.int .i64 0,.int .i64 0,.slice none 0 0],.int .i64 10]) (by simp [results,Tryz.results90,go_sem,k0,k1,k2,k3,k4,k5,k6,k7]) rfl ?_
 exact⟨rfl,ho11.o.below HL2.o (Mr _) HL2.o.size⟩
theorem get_cut (A:Option Addr) (n c:Nat) (zs:List Nat) (w:World) (hT:Tab w) (hR:Rd w A n c (u8n (closed zs))) (hz:by256 zs) (h2:2≤zs.length) (hm:zs.length≤1000) (ht:zs.take 2=[76,73])
 {v1 v2 v3 v4 v5 v6 v7 e1 e2 e3 e4 e5 e6 e7 e8:Int} {x1 x2 x3 x4 x5 x6 x7 x8 cs:List Int}
 (r1:TabR.rdN 1 (nl (zs.drop 2)) 0=(v1,x1,e1)) (r2:TabR.rdN 2 x1 e1=(v2,x2,e2)) (r3:TabR.rdN 2 x2 e2=(v3,x3,e3)) (r4:TabR.rdN 1 x3 e3=(v4,x4,e4)) (r5:TabR.rdN 1 x4 e4=(v5,x5,e5)) (r6:TabR.rdN 1 x5 e5=(v6,x6,e6)) (r7:TabR.rdN 1 x6 e6=(v7,x7,e7)) (r8:TxtR.rtx x7 e7=(cs,x8,e8))
 (hen:TabR.endN x8 e8=1):Calls Tryz.prog 90 #[.slice A n c] w (Gt w zeroV 1):=by
 have hn:(closed zs).length=n:=Rd.nats hR
 rw [Q2] at hn
 have hc:=hR.le
 have hc2:=hR.cap
 obtain⟨b,o,rfl,_,_⟩:=hR.2.2.2 (by omega)
 have HB0:=Hz (own0 w)
 have HL0:=Hz ((Mb w.heap.size w).alloc (Mr _) (.cells #[.int .i64 0,.int .i64 0,.int .i64 0,.int .i64 0,.int .i64 0,.int .i64 0,.int .i64 0,.slice none 0 0] 40))
 have HN:=Hz hn
 have htk:(closed zs).take (n-36)=zs:=by
  unfold closed
  rw [List.append_assoc,List.take_left' (by omega)]
 have HZ:=Hz (show Rd w (some ⟨b,o,none⟩) (n-36) c (u8n zs) from by have:=hR.take (k:=n-36) (by omega);rw [show (u8n (closed zs)).take (n-36)=u8n ((closed zs).take (n-36)) from by simp [u8n]] at this;rwa [htk] at this)
 have HS:=Hz (fun w' (hb:Bw w w')=>sealed_any (some ⟨b,o,none⟩) (n-36) c zs w' (hT.below hb hT.1) (HZ.o.below hb) hz (by omega))
 have HQ:=Hz (fun w' (hb:Bw w w') (B:Option Addr) (m d:Nat) (hB:Rd w' B m d (u8n (closed zs)))=>Jh (some ⟨b,o,none⟩) B n m c d (closed zs) (closed zs) w' (hR.below hb) hB (closed_lt hz) (closed_lt hz))
 rw [decide_eq_true rfl] at HQ
 have HCY:=Hz (fun w' (hb:Bw w w') (B:Option Addr) (d:Nat) (hP:Rd w' B 2 d (u8n [76,73]))=>Gq b o (n-36) c B d zs w' (HZ.o.below hb) hz hP h2 ht)
 have hd8:∀u ∈ nl (zs.drop 2),0≤u∧u≤255:=by
  intro u hu
  simp only [nl,List.mem_map] at hu
  obtain⟨q,hq,rfl⟩:=hu
  have:=hz q (List.mem_of_mem_drop hq)
  omega
 have HRA:=Hz (fun w' (A:Option Addr) (m k:Nat) (h:Rd w' A m k (u8n (zs.drop 2)))=>(hen▸Vn A m k (nl (zs.drop 2)) w' (by rw [←J7];exact h) hd8 (by have:=Rd.nats h;simp at this;omega) r1 r2 r3 r4 r5 r6 r7 r8))
 have h36 : ¬(n:Int)<36:=by omega
 have g0:(0:Int)≤(n:Int)-36:=by omega
 have g1:(n:Int)-36≤(c:Int):=by omega
 have g2:((n:Int)-36).toNat=n-36:=by omega
 have kc:=fun (w:World) (C:Array Value) (n c:Nat)=>Lib.run_convert_bytes_const (P:=Tryz.prog) w 38 5 C n c Tryz.underlying38 Tryz.underlying5
 clear hT hR hn htk ht hz r1 r2 r3 r4 r5 r6 r7 r8 hd8
 go_enter Tryz.func90,Tryz.ntmps90
 go_wp2_with fail
 refine (HS.o _ HL0.o).mono ?_
 rintro e w2 ⟨B,m,d,rfl,ho2,hb2⟩
 have HL2:=Hz (HL0.o.trans (hb2.mono (by simp)))
 have HB2:=Hz (HB0.o.below hb2)
 have HO2:=Hz (Rd.own ho2)
 clear ho2 hb2 HL0 HB0
 go_wp2_with fail
 refine (HQ.o _ HL2.o B m d HO2.o).mono ?_
 rintro e w3 ⟨rfl,rfl⟩
 go_wp2_with fail
 have HL3:=Hz (HL2.o.alloc HL2.o.size (.cells #[.int .u8 76,.int .u8 73] 5 (2,3)))
 have HB3:=Hz (HB2.o.alloc (.cells #[.int .u8 76,.int .u8 73] 5 (2,3)))
 refine (HCY.o _ HL3.o (some ⟨w2.heap.size,0,none⟩) 2 (CrcD.Rd.cells w2 [76,73] 5 (m:=(2,3)) rfl (by omega))).mono ?_
 rintro e w4 ⟨A4,m4,k4,rfl,hr4,rfl⟩
 have HR4:=Hz hr4
 clear hr4
 go_wp2_with fail
 refine (HRA.o _ A4 m4 k4 HR4.o).mono ?_
 rintro e w5 ⟨B5,m5,d5,rfl,hr5,hb5,hq5⟩
 have HL5:=Hz (HL3.o.trans (hb5.mono HL3.o.size))
 have HB5:=Hz (HB3.o.below hb5)
 have HR5:=Hz hr5
 have HN5:=Hz (show 0<m5→∀b o,B5=some ⟨b,o,none⟩→¬b=w.heap.size from fun h b o hA hb=>by have:=hq5 h b o hA;have h3:=HB3.o.lt;omega)
 clear hr5 hb5 hq5 HR4 HL3 HB3 HO2
 have HL6:=Hz (HL5.o.alloc HL5.o.size (.cells #[.int .i64 v1,.int .i64 v2,.int .i64 v3,.int .i64 v4,.int .i64 v5,.int .i64 v6,.int .i64 v7,.slice B5 m5 d5] 40))
 have HB6:=Hz (HB5.o.alloc (.cells #[.int .i64 v1,.int .i64 v2,.int .i64 v3,.int .i64 v4,.int .i64 v5,.int .i64 v6,.int .i64 v7,.slice B5 m5 d5] 40))
 go_wp2_with (refine Qq rfl 40 (.tmp 2) (.tmp 41) rfl w.heap.size rfl zeroI rfl HB6.o rfl Q8 J6 ?_;intro w11 hB11 ho11)
 have k0:=hB11.o.cell (i:=0) rfl
 have k1:=hB11.o.cell (i:=1) rfl
 have k2:=hB11.o.cell (i:=2) rfl
 have k3:=hB11.o.cell (i:=3) rfl
 have k4:=hB11.o.cell (i:=4) rfl
 have k5:=hB11.o.cell (i:=5) rfl
 have k6:=hB11.o.cell (i:=6) rfl
 have k7:=hB11.o.cell (i:=7) rfl
 refine bodyPost_ret (v:=.tuple #[.agg #[.int .i64 0,.int .i64 0,.int .i64 0,.int .i64 0,.int .i64 0,.int .i64 0,.int .i64 0,.slice none 0 0],.int .i64 1]) (by simp [results,Tryz.results90,go_sem,k0,k1,k2,k3,k4,k5,k6,k7]) rfl ?_
 exact⟨rfl,ho11.o.below HL6.o (Mr _) HL6.o.size⟩
theorem get_ok (A:Option Addr) (n c:Nat) (zs:List Nat) (w:World) (hT:Tab w) (hR:Rd w A n c (u8n (closed zs))) (hz:by256 zs) (h2:2≤zs.length) (hm:zs.length≤1000) (ht:zs.take 2=[76,73])
 {v1 v2 v3 v4 v5 v6 v7 e1 e2 e3 e4 e5 e6 e7 e8:Int} {x1 x2 x3 x4 x5 x6 x7 x8 cs:List Int}
 (r1:TabR.rdN 1 (nl (zs.drop 2)) 0=(v1,x1,e1)) (r2:TabR.rdN 2 x1 e1=(v2,x2,e2)) (r3:TabR.rdN 2 x2 e2=(v3,x3,e3)) (r4:TabR.rdN 1 x3 e3=(v4,x4,e4)) (r5:TabR.rdN 1 x4 e4=(v5,x5,e5)) (r6:TabR.rdN 1 x5 e5=(v6,x6,e6)) (r7:TabR.rdN 1 x6 e6=(v7,x7,e7)) (r8:TxtR.rtx x7 e7=(cs,x8,e8))
 (hen:TabR.endN x8 e8=0) {xs:List Nat} (hcs:cs=nl xs) (hri:∀A c,right ⟨v1,v2,v3,v4,v5,v6,v7,A,xs.length,c,xs⟩) (hxs:xs.length≤96):Calls Tryz.prog 90 #[.slice A n c] w fun e w'=>∃B d,Gt w (Im.val ⟨v1,v2,v3,v4,v5,v6,v7,B,xs.length,d,xs⟩) 0 e w'∧Rd w' B xs.length d (u8n xs):=by
 have hn:(closed zs).length=n:=Rd.nats hR
 rw [Q2] at hn
 have hc:=hR.le
 have hc2:=hR.cap
 obtain⟨b,o,rfl,_,_⟩:=hR.2.2.2 (by omega)
 have HB0:=Hz (own0 w)
 have HL0:=Hz ((Mb w.heap.size w).alloc (Mr _) (.cells #[.int .i64 0,.int .i64 0,.int .i64 0,.int .i64 0,.int .i64 0,.int .i64 0,.int .i64 0,.slice none 0 0] 40))
 have HN:=Hz hn
 have htk:(closed zs).take (n-36)=zs:=by
  unfold closed
  rw [List.append_assoc,List.take_left' (by omega)]
 have HZ:=Hz (show Rd w (some ⟨b,o,none⟩) (n-36) c (u8n zs) from by have:=hR.take (k:=n-36) (by omega);rw [show (u8n (closed zs)).take (n-36)=u8n ((closed zs).take (n-36)) from by simp [u8n]] at this;rwa [htk] at this)
 have HS:=Hz (fun w' (hb:Bw w w')=>sealed_any (some ⟨b,o,none⟩) (n-36) c zs w' (hT.below hb hT.1) (HZ.o.below hb) hz (by omega))
 have HQ:=Hz (fun w' (hb:Bw w w') (B:Option Addr) (m d:Nat) (hB:Rd w' B m d (u8n (closed zs)))=>Jh (some ⟨b,o,none⟩) B n m c d (closed zs) (closed zs) w' (hR.below hb) hB (closed_lt hz) (closed_lt hz))
 rw [decide_eq_true rfl] at HQ
 have HCY:=Hz (fun w' (hb:Bw w w') (B:Option Addr) (d:Nat) (hP:Rd w' B 2 d (u8n [76,73]))=>Gq b o (n-36) c B d zs w' (HZ.o.below hb) hz hP h2 ht)
 have hd8:∀u ∈ nl (zs.drop 2),0≤u∧u≤255:=by
  intro u hu
  simp only [nl,List.mem_map] at hu
  obtain⟨q,hq,rfl⟩:=hu
  have:=hz q (List.mem_of_mem_drop hq)
  omega
 have HRA:=Hz (fun w' (A:Option Addr) (m k:Nat) (h:Rd w' A m k (u8n (zs.drop 2)))=>(hen▸Vn A m k (nl (zs.drop 2)) w' (by rw [←J7];exact h) hd8 (by have:=Rd.nats h;simp at this;omega) r1 r2 r3 r4 r5 r6 r7 r8))
 have HRI:=Hz hri
 have h36 : ¬(n:Int)<36:=by omega
 have g0:(0:Int)≤(n:Int)-36:=by omega
 have g1:(n:Int)-36≤(c:Int):=by omega
 have g2:((n:Int)-36).toNat=n-36:=by omega
 have kc:=fun (w:World) (C:Array Value) (n c:Nat)=>Lib.run_convert_bytes_const (P:=Tryz.prog) w 38 5 C n c Tryz.underlying38 Tryz.underlying5
 clear hT hR hn htk ht hz r1 r2 r3 r4 r5 r6 r7 r8 hd8 hri
 go_enter Tryz.func90,Tryz.ntmps90
 go_wp2_with fail
 refine (HS.o _ HL0.o).mono ?_
 rintro e w2 ⟨B,m,d,rfl,ho2,hb2⟩
 have HL2:=Hz (HL0.o.trans (hb2.mono (by simp)))
 have HB2:=Hz (HB0.o.below hb2)
 have HO2:=Hz (Rd.own ho2)
 clear ho2 hb2 HL0 HB0
 go_wp2_with fail
 refine (HQ.o _ HL2.o B m d HO2.o).mono ?_
 rintro e w3 ⟨rfl,rfl⟩
 go_wp2_with fail
 have HL3:=Hz (HL2.o.alloc HL2.o.size (.cells #[.int .u8 76,.int .u8 73] 5 (2,3)))
 have HB3:=Hz (HB2.o.alloc (.cells #[.int .u8 76,.int .u8 73] 5 (2,3)))
 refine (HCY.o _ HL3.o (some ⟨w2.heap.size,0,none⟩) 2 (CrcD.Rd.cells w2 [76,73] 5 (m:=(2,3)) rfl (by omega))).mono ?_
 rintro e w4 ⟨A4,m4,k4,rfl,hr4,rfl⟩
 have HR4:=Hz hr4
 clear hr4
 go_wp2_with fail
 refine (HRA.o _ A4 m4 k4 HR4.o).mono ?_
 rintro e w5 ⟨B5,m5,d5,rfl,hr5,hb5,hq5⟩
 have HL5:=Hz (HL3.o.trans (hb5.mono HL3.o.size))
 have HB5:=Hz (HB3.o.below hb5)
 have HR5:=Hz hr5
 have HN5:=Hz (show 0<m5→∀b o,B5=some ⟨b,o,none⟩→¬b=w.heap.size from fun h b o hA hb=>by have:=hq5 h b o hA;have h3:=HB3.o.lt;omega)
 clear hr5 hb5 hq5 HR4 HL3 HB3 HO2
 have hr5:=HR5.o
 rw [hcs,←J7] at hr5
 obtain rfl:xs.length=m5:=Rd.nats hr5
 replace HR5:=Hz hr5
 have HG:=Hz (fun w'=>right_any ⟨v1,v2,v3,v4,v5,v6,v7,B5,xs.length,d5,xs⟩ w' (by show xs.length≤_;omega) true (by simpa using HRI.o B5 d5))
 clear hr5 HRI hcs
 go_wp2_with fail
 have HX6:=Hz (Blk.new w5 40 [.int .i64 v1,.int .i64 v2,.int .i64 v3,.int .i64 v4,.int .i64 v5,.int .i64 v6,.int .i64 v7,.slice B5 xs.length d5])
 have HL6:=Hz (HL5.o.alloc HL5.o.size (.cells #[.int .i64 v1,.int .i64 v2,.int .i64 v3,.int .i64 v4,.int .i64 v5,.int .i64 v6,.int .i64 v7,.slice B5 xs.length d5] 40))
 have HB6:=Hz (HB5.o.alloc (.cells #[.int .i64 v1,.int .i64 v2,.int .i64 v3,.int .i64 v4,.int .i64 v5,.int .i64 v6,.int .i64 v7,.slice B5 xs.length d5] 40))
 have HR6:=Hz (HR5.o.alloc (.cells #[.int .i64 v1,.int .i64 v2,.int .i64 v3,.int .i64 v4,.int .i64 v5,.int .i64 v6,.int .i64 v7,.slice B5 xs.length d5] 40))
 obtain⟨w6,hw6⟩:∃w6,w6=w5.alloc (.cells #[.int .i64 v1,.int .i64 v2,.int .i64 v3,.int .i64 v4,.int .i64 v5,.int .i64 v6,.int .i64 v7,.slice B5 xs.length d5] 40):=⟨_,rfl⟩
 replace HX6:=Hz (show Blk w6 w5.heap.size 40 [.int .i64 v1,.int .i64 v2,.int .i64 v3,.int .i64 v4,.int .i64 v5,.int .i64 v6,.int .i64 v7,.slice B5 xs.length d5] from by rw [hw6];exact HX6.o)
 rw [←hw6] at HL6 HB6 HR6 ⊢
 clear hw6
 refine (HG.o _).mono ?_
 rintro e w7 ⟨rfl,hb7⟩
 have HX7:=Hz (HX6.o.below hb7)
 have HL7:=Hz (HL6.o.trans (hb7.mono HL6.o.size))
 have HB7:=Hz (HB6.o.below hb7)
 have HR7:=Hz (HR6.o.below hb7)
 clear hb7 HX6 HL6 HB6 HR6
 have y0:=HX7.o.cell (i:=0) rfl
 have y1:=HX7.o.cell (i:=1) rfl
 have y2:=HX7.o.cell (i:=2) rfl
 have y3:=HX7.o.cell (i:=3) rfl
 have y4:=HX7.o.cell (i:=4) rfl
 have y5:=HX7.o.cell (i:=5) rfl
 have y6:=HX7.o.cell (i:=6) rfl
 have y7:=HX7.o.cell (i:=7) rfl
 go_wp2_with (refine Qq rfl 40 (.tmp 2) (.tmp 47) rfl w.heap.size rfl [.int .i64 v1,.int .i64 v2,.int .i64 v3,.int .i64 v4,.int .i64 v5,.int .i64 v6,.int .i64 v7,.slice B5 xs.length d5] rfl HB7.o rfl Q8 (by intro u hu;simp at hu;rcases hu with rfl|rfl|rfl|rfl|rfl|rfl|rfl|rfl <;> rfl) ?_;intro w11 hB11 ho11)
 have k0:=hB11.o.cell (i:=0) rfl
 have k1:=hB11.o.cell (i:=1) rfl
 have k2:=hB11.o.cell (i:=2) rfl
 have k3:=hB11.o.cell (i:=3) rfl
 have k4:=hB11.o.cell (i:=4) rfl
 have k5:=hB11.o.cell (i:=5) rfl
 have k6:=hB11.o.cell (i:=6) rfl
 have k7:=hB11.o.cell (i:=7) rfl
 refine bodyPost_ret (v:=.tuple #[.agg #[.int .i64 v1,.int .i64 v2,.int .i64 v3,.int .i64 v4,.int .i64 v5,.int .i64 v6,.int .i64 v7,.slice B5 xs.length d5],.int .i64 0]) (by simp [results,Tryz.results90,go_sem,k0,k1,k2,k3,k4,k5,k6,k7]) rfl ?_
 have kp:Keep (fun i=>i=w.heap.size) w7 w11:=Keep.only ho11.o rfl
 exact⟨B5,d5,⟨rfl,ho11.o.below HL7.o (Mr _) HL7.o.size⟩,kp.rd HR7.o (fun h b o hA hk=>HN5.o h b o hA hk)⟩
end ImgG
namespace ImgF
open Beq ImgA ImgB ImgS ImgP
theorem fields (i:Im) (hn:i.xs.length=i.n):nl ((head i).drop 2)=NumB.putb i.p 1++(NumB.putb i.v 2++(NumB.putb i.h 2++(NumB.putb i.m 1++(NumB.putb i.f 1++(NumB.putb i.s 1++(NumB.putb i.r 1++(NumB.putb (((nl i.xs).length:Nat):Int) 2++nl i.xs))))))):=by
 have h:(head i).drop 2=pbn i.p 1++(pbn i.v 2++(pbn i.h 2++(pbn i.m 1++(pbn i.f 1++(pbn i.s 1++(pbn i.r 1++(pbn (i.n:Int) 2++i.xs))))))):=by
  simp [head,nums8]
 rw [h]
 simp only [Xk,Y5]
 rw [Ww,hn]
theorem two (i:Im):(head i).take 2=[76,73]:=by simp [head,nums8]
theorem head_le {i:Im} (hn:i.xs.length=i.n) (hr:right i):(head i).length≤109:=by
 rw [Zg,hn]
 have:=hr.2.2.2.2.2.2.2.2
 omega
end ImgF
namespace NumF
open Kit NumA NumB NumE
theorem qzp (B:Option Addr) (m d:Nat) (ts:List Int) (w:World) (ht:Rd w B m d (u8s ts)) :
 Calls Tryz.prog 186 #[.slice B m d] w fun e w'=>Fresh w (txt ts) e w':=by
 obtain⟨i0,hi0,hz0,hz1,hz2⟩:=info_parts info8
 have t1:=ht.le
 have t2:=ht.cap
 have HL:Hid (ts.length=m):=Rd.bytes ht
 by_cases hs:m≤65535
 ·go_enter Tryz.func186,Tryz.ntmps186
  go_wp2_with (first
   | (go_at_call 184;refine (rput_any m 2 _ (by omega)).mono ?_;rintro e w1 ⟨A1,n1,c1,hn1,rfl,hown1,hb1⟩;have hn2:n1≤2:=by have:=hn1.o;rw [this];simp [Jg,Ug])
   | (at_builtin;refine Qu _ rfl (.tmp 11) (.tmp 14) _ rfl w.heap.size 5 i0 _ 1 Tryz.underlying38 hi0 hz0 hz1 hz2 rfl _ n1 (u8s (putb m 2)) rfl hown1 B m d (u8s ts) rfl (ht.below hb1) (u8s_one _) (by omega) (by omega) hb1.size ?_;intro A2 n2 c2 w2 hn3 hown2 hg2 hat2))
  go_ret
  refine Z7 (xs:=putb m 2++ts) (by rw [←Uz];exact hown2) (below_add hb1 hown1 (Mr _) hg2) ?_
  obtain rfl:=HL.o
  rw [txt,Mt hs,Nat.min_eq_left hs]
 ·go_enter Tryz.func186,Tryz.ntmps186
  go_wp2_with (first
   | (go_at_call 184;refine (rput_any 65535 2 _ (by omega)).mono ?_;rintro e w1 ⟨A1,n1,c1,hn1,rfl,hown1,hb1⟩;have hn2:n1≤2:=by have:=hn1.o;rw [this];simp [Jg,Ug])
   | (at_builtin;refine Qu _ rfl (.tmp 11) (.tmp 14) _ rfl w.heap.size 5 i0 _ 1 Tryz.underlying38 hi0 hz0 hz1 hz2 rfl _ n1 (u8s (putb 65535 2)) rfl hown1 B 65535 d ((u8s ts).take 65535) rfl ((ht.take (by omega)).below hb1) (by rw [Vt];exact u8s_one _) (by omega) (by omega) hb1.size ?_;intro A2 n2 c2 w2 hn3 hown2 hg2 hat2))
  go_ret
  refine Z7 (xs:=putb 65535 2++ts.take 65535) (by rw [←Uz,←Vt];exact hown2) (below_add hb1 hown1 (Mr _) hg2) ?_
  obtain rfl:=HL.o
  rw [txt,Nat.min_eq_right (by omega)]
  rfl
end NumF
namespace RefM
open ShaM
def val:List Nat→Nat
 | []=>0
 | d :: l=>d+65536*val l
theorem Uv (l m:List Nat):val (l++m)=val l+65536 ^ l.length*val m:=by
 induction l with
 | nil=>simp [val]
 | cons d l ih=>
   simp only [List.cons_append,val,ih,List.length_cons,Nat.pow_succ]
   rw [Nat.mul_add,←Nat.add_assoc,←Nat.mul_assoc,Nat.mul_comm 65536 (65536 ^ l.length)]
theorem qzq (n:Nat):val (List.replicate n 0)=0:=by
 induction n with
 | zero=>rfl
 | succ n ih=>simp [List.replicate_succ,val,ih]
def digs (l:List Nat):Prop:=∀d ∈ l,d<65536
theorem qzr {l:List Nat} (h:digs l):val l<65536 ^ l.length:=by
 induction l with
 | nil=>simp [val]
 | cons d l ih=>
   have h1:=h d (by simp)
   have h2:=ih fun x hx=>h x (by simp [hx])
   simp only [val,List.length_cons,Nat.pow_succ]
   have:65536*(val l+1)≤65536*65536 ^ l.length:=Nat.mul_le_mul_left _ h2
   omega
theorem Gj {l:List Nat} (h:digs l) (k:Nat) (hk:k≤l.length):val (l.drop k)=val l/65536 ^ k:=by
 have h1:=Uv (l.take k) (l.drop k)
 rw [List.take_append_drop] at h1
 have hlen:(l.take k).length=k:=by simp;omega
 have h2:=qzr (l:=l.take k) fun d hd=>h d (List.mem_of_mem_take hd)
 rw [hlen] at h1 h2
 rw [h1,Nat.add_mul_div_left _ _ (Nat.pow_pos (by decide)),Nat.div_eq_of_lt h2,Nat.zero_add]
theorem qxx {l:List Nat} (h:digs l) (k:Nat) (hk:k≤l.length):val (l.take k)=val l%65536 ^ k:=by
 have h1:=Uv (l.take k) (l.drop k)
 rw [List.take_append_drop] at h1
 have hlen:(l.take k).length=k:=by simp;omega
 have h2:=qzr (l:=l.take k) fun d hd=>h d (List.mem_of_mem_take hd)
 rw [hlen] at h1 h2
 rw [h1,Nat.add_mul_mod_self_left,Nat.mod_eq_of_lt h2]
theorem N0 {l:List Nat} {k:Nat} (hk:k<l.length) (d:Nat):val (l.set k d)+65536 ^ k*l[k]=val l+65536 ^ k*d:=by
 induction l generalizing k with
 | nil=>simp at hk
 | cons a l ih=>
   match k with
   | 0=>simp only [List.set_cons_zero,val,Nat.pow_zero,Nat.one_mul,List.getElem_cons_zero];omega
   | k+1=>
     have:=ih (k:=k) (by simpa using hk)
     simp only [List.set_cons_succ,val,List.getElem_cons_succ,Nat.pow_succ]
     have e1:65536 ^ k*65536*l[k]'(by simpa using hk)=65536*(65536 ^ k*l[k]'(by simpa using hk)):=by
      rw [Nat.mul_comm (65536 ^ k) 65536,Nat.mul_assoc]
     have e2:65536 ^ k*65536*d=65536*(65536 ^ k*d):=by
      rw [Nat.mul_comm (65536 ^ k) 65536,Nat.mul_assoc]
     rw [e1,e2]
     omega
theorem N1 {l:List Nat} (h:∀d ∈ l,d=0):val l=0:=by
 induction l with
 | nil=>rfl
 | cons d l ih=>
   have h1:=h d (by simp)
   have h2:=ih fun x hx=>h x (by simp [hx])
   simp [val,h1,h2]
theorem N4 {l:List Nat} (h:val l=0):∀d ∈ l,d=0:=by
 induction l with
 | nil=>intro d hd;cases hd
 | cons a l ih=>
   simp only [val] at h
   intro d hd
   rcases List.mem_cons.1 hd with rfl|hd
   ·omega
   ·exact ih (by omega) d hd
def fit (m p d:Nat):Bool:=decide (m ^ d≤p*4294967296 ^ d)
theorem qxy {r s P d:Nat} (h1:r ^ d≤P) (h2:P<(r+1) ^ d) (h3:s ^ d≤P) (h4:P<(s+1) ^ d):r=s:=by
 rcases Nat.lt_trichotomy r s with h|h|h
 ·have:(r+1) ^ d≤s ^ d:=Nat.pow_le_pow_left h d
  omega
 ·exact h
 ·have:(s+1) ^ d≤r ^ d:=Nat.pow_le_pow_left h d
  omega
def PL:List Nat:=[2,3,5,7,11,13,17,19,23,29,31,37,41,43,47,53,59,61,67,71,73,79,83,89,97,101,103,107,109,113,127,131,137,139,149,151,157,163,167,173,179,181,191,193,197,199,211,223,227,229,233,239,241,251,257,263,269,271,277,281,283,293,307,311]
def pb (p:Nat):List Nat:=PL.filter (· < p)
def isP (p:Nat) (l:List Nat):Bool:=l.all fun q=>p%q != 0
theorem pb_all:∀p,p<313→2≤p→(pb p).length<64→pb (p+1)=if isP p (pb p) then pb p++[p] else pb p:=by decide +kernel
theorem pb_end:∀p,p<313→(pb p).length<64∨pb p=PL:=by decide +kernel
theorem pb_lt:∀p,p<313→∀q ∈ pb p,2≤q∧q<313:=by decide +kernel
theorem pb_less:(pb 312)=PL:=by decide +kernel
theorem pb_two:pb 2=[]:=by decide +kernel
def C2:List Nat:=[1,1,2,2,3,3,4,4]
def C3:List Nat:=[1,1,1,1,2,2,2,2,2,3,3,3,3,3,3,3,3,3,4,4,4,4,4,4,4,4,4,4,4,4,5,5,5,5,5,5,5,5,5,5,5,5,5,5,5,5,5,6,6,6,6,6,6,6,6,6,6,6,6,6,6,6,6,6]
def R2 (i:Nat):Nat:=C2.getD i 0*4294967296+w0.list.getD i 0
def R3 (i:Nat):Nat:=C3.getD i 0*4294967296+KT.getD i 0
theorem roots2:∀i,i<8→R2 i ^ 2≤PL.getD i 0*4294967296 ^ 2∧PL.getD i 0*4294967296 ^ 2<(R2 i+1) ^ 2∧R2 i%4294967296=w0.list.getD i 0:=by decide +kernel
theorem roots3:∀i,i<64→R3 i ^ 3≤PL.getD i 0*4294967296 ^ 3∧PL.getD i 0*4294967296 ^ 3<(R3 i+1) ^ 3∧R3 i%4294967296=KT.getD i 0:=by decide +kernel
theorem PL_lt:∀i,i<64→2≤PL.getD i 0∧PL.getD i 0<312:=by decide +kernel
theorem PL_lt2:∀i,i<8→PL.getD i 0<20:=by decide +kernel
end RefM
namespace RefN
open RefM
def Lay (x:List Nat) (m i k r:Nat) (o:List Nat):Prop:=
 o.length=x.length+4∧r*65536 ^ k≤m∧val o+65536 ^ (i+k)*(x.getD i 0*r)=val (x.take i)*m+65536 ^ i*(x.getD i 0*m)∧
 (∀j (h:j<o.length),o[j]≤(i+1)*4294967296)∧∀j (h:j<o.length),i+k≤j→o[j]≤i*4294967296
def Laid (x:List Nat) (m i:Nat) (o:List Nat):Prop:=
 o.length=x.length+4∧val o=val (x.take i)*m∧∀j (h:j<o.length),o[j]≤i*4294967296
theorem Laid.zero (x:List Nat) (m:Nat):Laid x m 0 (List.replicate (x.length+4) 0):=by
 refine⟨by rw [List.length_replicate],by rw [qzq,List.take_zero];show 0=0*m;omega,fun j h=>?_⟩
 rw [List.getElem_replicate]
 exact Nat.zero_le _
theorem Laid.lay {x:List Nat} {m i:Nat} {o:List Nat} (h:Laid x m i o):Lay x m i 0 m o:=by
 obtain⟨h1,h2,h3⟩:=h
 refine⟨h1,by simp,by rw [h2,Nat.add_zero],fun j hj=>?_,fun j hj _=>h3 j hj⟩
 have h4:=h3 j hj
 exact Ml h4 (Nat.mul_le_mul_right _ (Nat.le_succ i))
theorem Lay.laid {x:List Nat} {m i k:Nat} {o:List Nat} (h:Lay x m i k 0 o) (hi:i<x.length):Laid x m (i+1) o:=by
 obtain⟨h1,_,h2,h3,_⟩:=h
 refine⟨h1,?_,h3⟩
 rw [Nat.mul_zero,Nat.mul_zero,Nat.add_zero] at h2
 have e:x.take (i+1)=x.take i++[x.getD i 0]:=by
  rw [List.take_succ_eq_append_getElem hi,Mg,Mq hi]
  rfl
 have hl:(x.take i).length=i:=by simp;omega
 rw [h2,e,Uv,hl]
 simp only [val,Nat.mul_zero,Nat.add_zero]
 rw [Nat.add_mul,Nat.mul_assoc]
theorem Lay.place {x:List Nat} {m i k r:Nat} {o:List Nat} (h:Lay x m i k r o) (hi:i<x.length) (hm:m<281474976710656) (hr:0<r):i+k<o.length∧k<3:=by
 obtain⟨h1,h2,_⟩:=h
 have h3:65536 ^ k≤m:=Ml (Nat.le_mul_of_pos_left _ hr) h2
 have hk:k<3:=by
  rcases Nat.lt_or_ge k 3 with h|h
  ·exact h
  ·have:65536 ^ 3≤65536 ^ k:=Nat.pow_le_pow_right (by decide) h
   omega
 omega
theorem Lay.next {x:List Nat} {m i k r:Nat} {o:List Nat} (h:Lay x m i k r o) (hx:digs x) (hk:i+k<o.length) :
 Lay x m i (k+1) (r/65536) (o.set (i+k) (o[i+k]+x.getD i 0*(r%65536))):=by
 obtain⟨h1,h2,h3,h4,h5⟩:=h
 have hd:x.getD i 0≤65535:=by
  rw [Mg]
  by_cases hi:i<x.length
  ·rw [Mq hi]
   have:=hx x[i] (Me_ hi)
   simp only [Option.getD_some]
   omega
  ·rw [List.getElem?_eq_none (by omega)]
   simp
 have hprod:x.getD i 0*(r%65536)≤65535*65535:=Nat.mul_le_mul hd (by omega)
 refine⟨by rw [List.length_set,h1],?_,?_,?_,?_⟩
 ·have e:r/65536*65536 ^ (k+1)=(r/65536*65536)*65536 ^ k:=by rw [Nat.pow_succ,Nat.mul_comm (65536 ^ k) 65536,←Nat.mul_assoc]
  rw [e]
  exact Ml (Nat.mul_le_mul_right _ (Nat.div_mul_le_self r 65536)) h2
 ·have hv:=N0 hk (o[i+k]+x.getD i 0*(r%65536))
  rw [Nat.mul_add] at hv
  have e1:65536 ^ (i+(k+1))*(x.getD i 0*(r/65536))=65536 ^ (i+k)*(x.getD i 0*(65536*(r/65536))):=by
   rw [←Nat.add_assoc,Nat.pow_succ,Nat.mul_assoc,Nat.mul_left_comm 65536]
  have e2:65536 ^ (i+k)*(x.getD i 0*r)=65536 ^ (i+k)*(x.getD i 0*(65536*(r/65536)))+65536 ^ (i+k)*(x.getD i 0*(r%65536)):=by
   rw [←Nat.mul_add,←Nat.mul_add,Nat.div_add_mod]
  rw [e1]
  rw [e2] at h3
  omega
 ·intro j hj
  rw [List.getElem_set]
  split
  ·have:=h5 (i+k) hk (Mr _)
   omega
  ·exact h4 j (by simpa using hj)
 ·intro j hj hij
  rw [List.getElem_set,if_neg (by omega)]
  exact h5 j (by simpa using hj) (by omega)
def Carry (V n i:Nat) (o:List Nat):Prop:=
 o.length=n∧val o=V∧(∀j (h:j<o.length),j<i→o[j]<65536)∧∀j (h:j<o.length),o[j]≤137438953472∧(i<j→o[j]≤68719476736)
theorem Laid.carry {x:List Nat} {m:Nat} {o:List Nat} (h:Laid x m x.length o) (hx:x.length≤13):Carry (val x*m) (x.length+4) 0 o:=by
 obtain⟨h1,h2,h3⟩:=h
 rw [Mt (Mr _)] at h2
 refine⟨h1,h2,fun j _ h=>absurd h (by omega),fun j hj=>?_⟩
 have h4:=h3 j hj
 have:x.length*4294967296≤13*4294967296:=Nat.mul_le_mul_right _ hx
 exact⟨by omega,fun _=>by omega⟩
theorem Carry.next {V n i:Nat} {o:List Nat} (h:Carry V n i o) (hi:i+1<o.length) :
 Carry V n (i+1) ((o.set (i+1) (o[i+1]+o[i]'(by omega)/65536)).set i (o[i]'(by omega)%65536)):=by
 obtain⟨h1,h2,h3,h4⟩:=h
 have hb:=h4 i (by omega)
 have hc:=(h4 (i+1) hi).2 (by omega)
 refine⟨by simp [h1],?_,?_,?_⟩
 ·have v1:=N0 hi (o[i+1]+o[i]'(by omega)/65536)
  have hi2:i<(o.set (i+1) (o[i+1]+o[i]'(by omega)/65536)).length:=by simp;omega
  have v2:=N0 hi2 (o[i]'(by omega)%65536)
  rw [List.getElem_set_ne (by omega)] at v2
  rw [Nat.mul_add,Nat.pow_succ] at v1
  have e1:65536 ^ i*65536*(o[i]'(by omega)/65536)=65536 ^ i*(65536*(o[i]'(by omega)/65536)):=Nat.mul_assoc _ _ _
  have e2:65536 ^ i*o[i]'(by omega)=65536 ^ i*(65536*(o[i]'(by omega)/65536))+65536 ^ i*(o[i]'(by omega)%65536):=by rw [←Nat.mul_add,Nat.div_add_mod]
  omega
 ·intro j hj hij
  rw [List.getElem_set]
  split
  ·exact Nat.mod_lt _ (by decide)
  ·rw [List.getElem_set_ne (by omega)]
   exact h3 j (by simpa using hj) (by omega)
 ·intro j hj
  rw [List.getElem_set]
  split
  ·exact⟨by omega,fun h=>absurd h (by omega)⟩
  ·rw [List.getElem_set]
   split
   ·exact⟨by omega,fun h=>absurd h (by omega)⟩
   ·have h5:=h4 j (by simpa using hj)
    exact⟨h5.1,fun h=>h5.2 (by omega)⟩
theorem Carry.end_ {x:List Nat} {m i:Nat} {o:List Nat} (h:Carry (val x*m) (x.length+4) i o) (hi:i+1=x.length+4) (hx:digs x) (hm:m<281474976710656):digs o:=by
 obtain⟨h1,h2,h3,_⟩:=h
 have hlt:val o<65536 ^ (x.length+3):=by
  rw [h2,Nat.pow_add]
  have:=qzr hx
  exact Mw (Nat.mul_lt_mul_of_lt_of_le this (Nat.le_of_lt hm) (by decide)) (Mr _)
 have hap:=Uv (o.take i) (o.drop i)
 rw [List.take_append_drop] at hap
 have hl:(o.take i).length=i:=by simp;omega
 have hdr:o.drop i=[o[i]'(by omega)]:=by
  rw [List.drop_eq_getElem_cons (by omega),List.drop_of_length_le (by omega)]
 rw [hl,hdr] at hap
 simp only [val,Nat.mul_zero,Nat.add_zero] at hap
 have hi3:i=x.length+3:=by omega
 rw [←hi3] at hlt
 have hz:o[i]'(by omega)=0:=by
  rcases Nat.eq_zero_or_pos (o[i]'(by omega)) with h|h
  ·exact h
  ·have:=Nat.le_mul_of_pos_right (65536 ^ i) h
   omega
 intro d hd
 obtain⟨j,hj,rfl⟩:=List.getElem_of_mem hd
 by_cases hji:j=i
 ·subst hji;omega
 ·exact h3 j hj (by omega)
theorem fit_no {x:List Nat} {m p d j:Nat} (hx:digs x) (hv:val x=m ^ d) (hj:2*d≤j) (hjl:j≤x.length) (h:p<val (x.drop j) ):fit m p d=false:=by
 have h1:=Gj hx j hjl
 rw [h1,hv] at h
 have hp:4294967296 ^ d=65536 ^ (2*d):=by rw [Nat.pow_mul]
 have h2:65536 ^ (2*d)≤65536 ^ j:=Nat.pow_le_pow_right (by decide) hj
 have h3:(p+1)*65536 ^ j≤m ^ d:=Ml (Nat.mul_le_mul_right _ h) (Nat.div_mul_le_self _ _)
 have h4:p*65536 ^ (2*d)≤p*65536 ^ j:=Nat.mul_le_mul_left _ h2
 have h5:0<65536 ^ j:=Nat.pow_pos (by decide)
 unfold fit
 rw [hp]
 simp only [decide_eq_false_iff_not]
 rw [Nat.add_mul] at h3
 omega
theorem fit_yes {x:List Nat} {m p d:Nat} (hx:digs x) (hv:val x=m ^ d) (hl:2*d≤x.length) (h:val (x.drop (2*d))<p):fit m p d=true:=by
 have h1:=Gj hx (2*d) hl
 rw [h1,hv] at h
 have hp:4294967296 ^ d=65536 ^ (2*d):=by rw [Nat.pow_mul]
 have h5:0<65536 ^ (2*d):=Nat.pow_pos (by decide)
 have h6:=(Nat.div_lt_iff_lt_mul h5).1 h
 unfold fit
 rw [hp]
 simp only [decide_eq_true_eq]
 omega
theorem fit_even {x:List Nat} {m p d:Nat} (hx:digs x) (hv:val x=m ^ d) (hl:2*d≤x.length) (h:val (x.drop (2*d))=p):fit m p d=(x.take (2*d)).all (·==0):=by
 have h1:=Gj hx (2*d) hl
 have h2:=qxx hx (2*d) hl
 rw [hv] at h1 h2
 rw [h1] at h
 have hp:4294967296 ^ d=65536 ^ (2*d):=by rw [Nat.pow_mul]
 have hdm:=Nat.div_add_mod (m ^ d) (65536 ^ (2*d))
 rw [h,Nat.mul_comm] at hdm
 have h5:0<65536 ^ (2*d):=Nat.pow_pos (by decide)
 unfold fit
 rw [hp,Bool.eq_iff_iff]
 simp only [decide_eq_true_eq,List.all_eq_true,beq_iff_eq]
 constructor
 ·intro hle
  exact N4 (l:=x.take (2*d)) (by omega)
 ·intro hz
  have:=N1 hz
  omega
end RefN
namespace RefB
open Kit ShaK RefM RefN
def i64n (xs:List Nat):List Value:=xs.map fun n:Nat=>Value.int .i64 (n:Int)
theorem Wz (xs:List Nat):(i64n xs).length=xs.length:=List.length_map ..
theorem Gz (xs:List Nat) (k y:Nat):(i64n xs).set k (.int .i64 (y:Int))=i64n (xs.set k y):=by simp [i64n,List.map_set]
theorem Uu (xs ys:List Nat):i64n xs++i64n ys=i64n (xs++ys):=by simp [i64n]
theorem i64n_one (xs:List Nat):∀u ∈ i64n xs,u.oneCell'=true:=by
 intro u hu
 simp only [i64n,List.mem_map] at hu
 obtain⟨n,_,rfl⟩:=hu
 rfl
theorem qzs (n:Nat):List.replicate n (Value.int .i64 0)=i64n (List.replicate n 0):=by simp [i64n]
section
variable {w:World} {g:Nat} {t:TypeId} {bs:List Nat}
theorem Gv (h:Blk w g t (i64n bs)) {i:Nat} (hi:i<bs.length):w.cell? ⟨g,i,none⟩=some (.int .i64 (bs.getD i 0:Nat)):=
 h.cell (by simp [i64n,hi])
theorem blk_rd (h:Blk w g t (i64n bs)) (hl:bs.length≤9223372036854775807):Rd w (some ⟨g,0,none⟩) bs.length bs.length (i64n bs):=
 ⟨Wz bs,Mr _,hl,fun _=>⟨g,0,rfl,h.lt,fun j u hu=>by rw [Nat.zero_add];exact h.cell hu⟩⟩
theorem W7 {A:Option Addr} {n c:Nat} (h:Rd w A n c (i64n bs)) {k:Nat} (hk:k<n):∃b o,A=some ⟨b,o,none⟩∧w.cell? ⟨b,o+k,none⟩=some (.int .i64 (bs.getD k 0:Nat)):=by
 obtain⟨b,o,hA,hc⟩:=Rd.at_ h hk
 have hl:k<bs.length:=by have:=h.len;rw [Wz] at this;omega
 exact⟨b,o,hA,by rw [hc];simp [i64n,Mg,Mq hl]⟩
end
theorem Tt {l:List Nat} (h:digs l) (j:Nat):l.getD j 0≤65535:=by
 rw [Mg]
 by_cases hi:j<l.length
 ·rw [Mq hi]
  have:=h l[j] (Me_ hi)
  simp only [Option.getD_some]
  omega
 ·rw [List.getElem?_eq_none (by omega)]
  simp
theorem info64:(Tryz.prog.info? 3).map (fun i=>(i.zero,i.size,i.bytes))=some (some (.int .i64 0),1,8):=by kernel_rfl
theorem times_any (A:Option Addr) (n c:Nat) (x:List Nat) (m:Nat) (w:World) (hr:Rd w A n c (i64n x)) (hx:digs x) (hn:n≤13) (hm:m<281474976710656) :
 Calls Tryz.prog 222 #[.slice A n c,.int .i64 (m:Nat)] w fun e w'=>∃o:List Nat,e=.returned (.slice (some ⟨w.heap.size,0,none⟩) (n+4) (n+4))∧Blk w' w.heap.size 3 (i64n o)∧o.length=n+4∧digs o∧val o=val x*m∧Bw w w':=by
 have hxl:x.length=n:=by have:=hr.len;rwa [Wz] at this
 obtain⟨i0,hi0,hz0,hz1,hz2⟩:=info_parts info64
 go_enter Tryz.func222,Tryz.ntmps222
 go_wp2_with (refine Qx _ rfl (.tmp 12) (.tmp 12) 71 rfl 3 i0 _ 8 Tryz.underlying71 hi0 hz0 hz1 hz2 rfl .i64 .i64 ((n:Int)+4) ((n:Int)+4) (n+4) (n+4) rfl rfl (by omega) (by omega) (by omega) (by omega) (by omega) ?_;intro w1 hB1 hb1 hs1)
 have H0:Hid (Blk w1 w.heap.size 3 (i64n (List.replicate (n+4) 0))):=Hz (by rw [←qzs];exact hB1.o)
 clear hB1
 go_loopw [6,7,8] (fun i _ _ wr=>∃k:Nat,∃o:List Nat,k≤n∧i=.int .i64 k∧Hid (Blk wr w.heap.size 3 (i64n o))∧Hid (Laid x m k o)∧Bw w wr) (fun i _ _ _=>n-(intOf i).toNat)
 case atStart=>exact⟨0,_,Nat.zero_le _,rfl,H0,Hz (by rw [←hxl];exact Laid.zero x m),hb1⟩
 case round=>
  obtain⟨k,o,hk,rfl,hB,hL,hbel⟩:=hrel
  clear H0
  by_cases hlt:k<n
  ·go_wp2
   go_loopw [7,8] (fun r j wr=>∃q t:Nat,∃o:List Nat,r=.int .i64 q∧j=.int .i64 t∧Hid (Blk wr w.heap.size 3 (i64n o))∧Hid (Lay x m k t q o)∧q≤m∧Bw w wr) (fun r _ _=>(intOf r).toNat)
   case atStart=>exact⟨m,0,o,rfl,rfl,hB,Hz hL.o.lay,Mr _,hbel⟩
   case round=>
    clear hB hL hbel
    obtain⟨q,t,o,rfl,rfl,hB,hL,hqm,hbel⟩:=hrel
    by_cases hq:0<q
    ·have hol:=hL.o.1
     have hpl:=hL.o.place (by omega) hm hq
     have cO:=Gv hB.o hpl.1
     have fO:=hB.o.frozen (k+t)
     obtain⟨b,off,rfl,cX⟩:=W7 (hr.below (hbel.mono (Mr _))) hlt
     go_wp2
     have hd:=Tt hx k
     have hmod:q%65536≤65535:=by omega
     have hprod:x.getD k 0*(q%65536)≤65535*65535:=Nat.mul_le_mul hd hmod
     have hob:=hL.o.2.2.2.2 (k+t) hpl.1 (Mr _)
     have hkb:k*4294967296≤13*4294967296:=Nat.mul_le_mul_right _ (by omega)
     have hog:o.getD (k+t) 0=o[k+t]'hpl.1:=by rw [Mg,Mq hpl.1];rfl
     have hN:=hL.o.next hx hpl.1
     rw [←hog] at hN
     have hS:Hid (Blk (wr.drew.setCell ⟨w.heap.size,k+t,none⟩ (.int .i64 ((o.getD (k+t) 0+x.getD k 0*(q%65536):Nat):Int))) w.heap.size 3 (i64n (o.set (k+t) (o.getD (k+t) 0+x.getD k 0*(q%65536))))):=Hz (by
      have h5:=Blk.set (w:=wr.drew) hB.o (k+t) (.int .i64 ((o.getD (k+t) 0+x.getD k 0*(q%65536):Nat):Int))
      rw [Gz] at h5
      exact h5)
     have hbel2:=Hz (hbel.drew.setCell (p:=⟨w.heap.size,k+t,none⟩) (by simp) (.int .i64 ((o.getD (k+t) 0+x.getD k 0*(q%65536):Nat):Int)))
     have hN':=Hz hN
     rw [←hog] at hob
     obtain⟨y,hy⟩:∃y,y=x.getD k 0*(q%65536):=⟨_,rfl⟩
     obtain⟨z,hz⟩:∃z,z=o.getD (k+t) 0+y:=⟨_,rfl⟩
     have w1':IntKind.i64.wrap ((x.getD k 0:Nat)*((q:Int).tmod 65536))=(y:Int):=by
      have e:((x.getD k 0:Nat):Int)*((q:Int).tmod 65536)=(y:Int):=by rw [hy,Int.natCast_mul,Int.tmod_eq_emod_of_nonneg (by omega)];simp
      rw [e,Mi_];omega
     have w2':IntKind.i64.wrap (((o.getD (k+t) 0:Nat):Int)+(y:Int))=(z:Int):=by rw [Mi_];omega
     rw [←hy,←hz] at hS hbel2 hN'
     have w0:IntKind.i64.wrap ((k:Int)+(t:Int))=(k:Int)+(t:Int):=by rw [Mi_];omega
     have t0:((k:Int)+(t:Int)).toNat=k+t:=by omega
     have p0:(0:Int)≤(k:Int)+(t:Int):=by omega
     have q0:(k:Int)+(t:Int)<(n:Int)+4:=by omega
     have r0:(0:Int)≤(k:Int):=by omega
     have r1:(k:Int)<(n:Int):=by omega
     clear hN hob hog hprod hy hz hd hmod hkb
     generalize o.getD (k+t) 0=oc at *
     generalize x.getD k 0=xc at *
     go_wp2
     go_still_tail 14,(by kernel_rfl)
     change wpList _ _ _ _ _ wr.drew
     clear w1' w2' w0 t0 p0 q0 r0 r1 cX
     go_wp2
     go_roundw
     case rel=>exact⟨q/65536,t+1,_,by go_num,by go_num,hS,hN',by omega,hbel2.o⟩
     case measure=>simp [intOf];omega
    ·obtain rfl:q=0:=by omega
     go_wp2
     go_roundw
     case rel=>exact⟨k+1,o,by omega,by go_num,hB,Hz (hL.o.laid (by omega)),hbel⟩
     case measure=>simp [intOf];omega
  ·obtain rfl:k=n:=by omega
   have hC:Hid (Carry (val x*m) (k+4) 0 o):=Hz (by subst hxl;exact hL.o.carry hn)
   clear hL
   go_wp2
   go_loopw [9] (fun i wr=>∃t:Nat,∃o:List Nat,t+1≤k+4∧i=.int .i64 t∧Hid (Blk wr w.heap.size 3 (i64n o))∧Hid (Carry (val x*m) (k+4) t o)∧Bw w wr) (fun i _=>k+4-(intOf i).toNat)
   case atStart=>exact⟨0,o,by omega,rfl,hB,hC,hbel⟩
   case round=>
    clear hB hC hbel
    obtain⟨t,o,ht,rfl,hB,hC,hbel⟩:=hrel
    have hol:=hC.o.1
    by_cases hlt:t+1<k+4
    ·have c0:=Gv hB.o (i:=t) (by omega)
     have c1:=Gv hB.o (i:=t+1) (by omega)
     have f0:=hB.o.frozen t
     have f1:=hB.o.frozen (t+1)
     have hN:=hC.o.next (by omega)
     have g0:o.getD t 0=o[t]'(by omega):=by rw [Mg,Mq (by omega)];rfl
     have g1:o.getD (t+1) 0=o[t+1]'(by omega):=by rw [Mg,Mq (by omega)];rfl
     have b0:=(hC.o.2.2.2 t (by omega)).1
     have b1:=(hC.o.2.2.2 (t+1) (by omega)).1
     rw [←g0] at b0
     rw [←g1] at b1
     rw [←g0,←g1] at hN
     obtain⟨z,hz⟩:∃z,z=o.getD (t+1) 0+o.getD t 0/65536:=⟨_,rfl⟩
     obtain⟨y,hy⟩:∃y,y=o.getD t 0%65536:=⟨_,rfl⟩
     have z1:((o.getD (t+1) 0:Nat):Int)+((o.getD t 0:Nat):Int)/65536=(z:Int):=by omega
     have z2:((o.getD t 0:Nat):Int)%65536=(y:Int):=by omega
     rw [←hz,←hy] at hN
     have hN':=Hz hN
     have hB1:Blk (wr.drew.setCell ⟨w.heap.size,t+1,none⟩ (.int .i64 (((o.getD (t+1) 0:Nat):Int)+((o.getD t 0:Nat):Int)/65536))) w.heap.size 3 (i64n (o.set (t+1) z)):=by
      rw [z1]
      have h5:=Blk.set (w:=wr.drew) hB.o (t+1) (.int .i64 (z:Int))
      rw [Gz] at h5
      exact h5
     have hB2:Blk ((wr.drew.setCell ⟨w.heap.size,t+1,none⟩ (.int .i64 (((o.getD (t+1) 0:Nat):Int)+((o.getD t 0:Nat):Int)/65536))).setCell ⟨w.heap.size,t,none⟩ (.int .i64 (((o.getD t 0:Nat):Int)%65536))) w.heap.size 3 (i64n ((o.set (t+1) z).set t y)):=by
      rw [z2]
      have h5:=Blk.set hB1 t (.int .i64 (y:Int))
      rw [Gz] at h5
      exact h5
     have hbel2:=Hz ((hbel.drew.setCell (p:=⟨w.heap.size,t+1,none⟩) (by simp) (.int .i64 (((o.getD (t+1) 0:Nat):Int)+((o.getD t 0:Nat):Int)/65536))).setCell (p:=⟨w.heap.size,t,none⟩) (by simp) (.int .i64 (((o.getD t 0:Nat):Int)%65536)))
     have c2:=Gv hB1 (i:=t) (by rw [List.length_set];omega)
     have f2:=hB1.frozen t
     have g2:(o.set (t+1) z).getD t 0=o.getD t 0:=by
      rw [Mg,Mg,List.getElem?_set_ne (by omega)]
     rw [g2] at c2
     have hB2':=Hz hB2
     have w0:IntKind.i64.wrap ((t:Int)+1)=(t:Int)+1:=by rw [Mi_];omega
     have t0:((t:Int)+1).toNat=t+1:=by omega
     have p0:(0:Int)≤(t:Int)+1:=by omega
     have q0:(t:Int)+1<(k:Int)+4:=by omega
     have r0:(0:Int)≤(t:Int):=by omega
     have r1:(t:Int)<(k:Int)+4:=by omega
     clear hN g0 g1 g2 hz hy z1 z2 hB1 hB2
     generalize o.getD (t+1) 0=oc1 at *
     generalize o.getD t 0=oc0 at *
     go_wp2
     go_still_tail 11,(by kernel_rfl)
     change wpList _ _ _ _ _ wr.drew
     go_wp2
     go_roundw
     case rel=>exact⟨t+1,_,by omega,by go_num,hB2',hN',hbel2.o⟩
     case measure=>simp [intOf];omega
    ·go_wp2
     go_ret
     refine⟨o,rfl,hB.o,hol,(by subst hxl;exact hC.o.end_ (by omega) hx hm),hC.o.2.1,hbel⟩
end RefB
namespace RefE
open Kit RefM RefB
theorem isP_step {p:Nat} {l:List Nat} {i:Nat} (h:i<l.length):isP p (l.take (i+1))=(isP p (l.take i)&&p%l.getD i 0 != 0):=by
 unfold isP
 rw [List.take_succ_eq_append_getElem h,List.all_append,Mg,Mq h]
 simp
theorem mod_ne (q y:Nat):((q:Int)%(y:Int) != 0)=(q%y != 0):=by
 rw [←Int.natCast_emod,Bool.eq_iff_iff]
 simp only [bne_iff_ne,ne_eq]
 omega
theorem pb_at {p:Nat} (hp:p<313) {i:Nat} (h:i<(pb p).length):2≤(pb p).getD i 0∧(pb p).getD i 0<313:=by
 rw [Mg,Mq h]
 exact pb_lt p hp _ (Me_ h)
theorem pb_go {p:Nat} (hp:p≤312) (h:(pb p).length<64):p<312:=by
 rcases Nat.lt_or_ge p 312 with h1|h1
 ·exact h1
 ·obtain rfl:p=312:=by omega
  rw [pb_less] at h
  exact absurd h (by decide)
theorem pb_full {p:Nat} (hp:p≤312) (h : ¬(pb p).length<64):pb p=PL:=by
 rcases pb_end p (by omega) with h1|h1
 ·exact absurd h1 h
 ·exact h1
theorem one_rd {w:World} (y:Nat) (t:TypeId):Rd (w.alloc (.cells #[.int .i64 (y:Int)] t)) (some ⟨w.heap.size,0,none⟩) 1 1 (i64n [y]):=
 blk_rd (bs:=[y]) (t:=t) (heap_alloc_new w _) (by simp)
theorem primes_any (w:World):Calls Tryz.prog 204 #[.int .i64 64] w fun e w'=>∃A c,e=.returned (.slice A 64 c)∧Rd w' A 64 c (i64n PL)∧Bw w w':=by
 obtain⟨i0,hi0,hz0,hz1,hz2⟩:=info_parts info64
 have H0:Hid (w.ownsRow w.heap.size 3 1 (.slice none 0 0) 0 (i64n (pb 2))):=Hz (by rw [pb_two];exact⟨rfl,.inl ⟨rfl,rfl⟩⟩)
 go_enter Tryz.func204,Tryz.ntmps204
 go_wp2
 go_loopw [3,4,5,6] (fun o p _ _ wr=>∃q n c:Nat,∃A,2≤q∧q≤312∧o=.slice A n c∧p=.int .i64 q∧Hid (n=(pb q).length)∧n≤64∧Hid (wr.ownsRow w.heap.size 3 1 (.slice A n c) n (i64n (pb q)))∧Bw w wr) (fun _ p _ _ _=>313-(intOf p).toNat)
 case atStart=>exact⟨2,0,0,none,by omega,by omega,rfl,rfl,Hz (by rw [pb_two];rfl),by omega,H0,Mb _ _⟩
 case round=>
  clear H0
  obtain⟨q,n,c,A,hq2,hq,rfl,rfl,hn,hn64,hO,hbel⟩:=hrel
  by_cases hlt:n<64
  ·have hq3:q<312:=pb_go hq (by rw [←hn.o];exact hlt)
   have hnext:=Hz (pb_all q (by omega) hq2 (by rw [←hn.o];exact hlt))
   have hR:=Hz (Rd.own hO.o)
   go_wp2
   go_loop [5,6] (fun b i=>∃k:Nat,k≤n∧i=.int .i64 k∧b=.bool (isP q ((pb q).take k))) (fun _ i=>n-(intOf i).toNat)
   case atStart=>exact⟨0,Nat.zero_le _,rfl,rfl⟩
   case round=>
    obtain⟨k,hk,rfl,rfl⟩:=hrel
    by_cases hlt2:k<n
    ·have hs:=Hz (isP_step (p:=q) (l:=pb q) (i:=k) (by rw [←hn.o];exact hlt2))
     have ha:=pb_at (p:=q) (by omega) (i:=k) (by rw [←hn.o];exact hlt2)
     obtain⟨b,off,rfl,cX⟩:=W7 hR.o hlt2
     generalize (pb q).getD k 0=y at *
     rcases hb:isP q ((pb q).take k) with _|_
     ·go_wp2
      go_round
      case rel=>exact⟨k+1,by omega,by go_num,by rw [hs.o,hb];rfl⟩
      case measure=>simp [intOf];omega
     ·go_wp2
      go_round
      case rel=>exact⟨k+1,by omega,by go_num,by rw [hs.o,hb,mod_ne,Bool.true_and]⟩
      case measure=>simp [intOf];omega
    ·obtain rfl:k=n:=by omega
     have hall:Hid ((pb q).take k=pb q):=Hz (Mt (by rw [←hn.o];exact Mr _))
     rw [hall.o]
     rcases hb:isP q (pb q) with _|_
     ·rw [hb] at hnext
      go_wp2
      go_roundw
      case rel=>exact⟨q+1,k,c,A,by omega,by omega,rfl,by go_num,Hz (by rw [hnext.o];exact hn.o),by omega,Hz (by rw [hnext.o];exact hO.o),hbel⟩
      case measure=>simp [intOf];omega
     ·rw [hb] at hnext
      go_wp2_with (at_builtin;refine Qu _ rfl (.tmp 30) (.tmp 32) _ rfl w.heap.size 3 i0 _ 8 Tryz.underlying71 hi0 hz0 hz1 hz2 rfl _ k _ rfl (hO.o.alloc _) (some ⟨wr.heap.size,0,none⟩) 1 1 (i64n [q]) rfl (one_rd q _) (i64n_one _) (by omega) (by omega) (by have:=hbel.size;simp;omega) ?_;intro A3 n3 c3 w3 hn3 hown3 hg3 hat3;have hb3:=below_add (hbel.alloc hbel.size _) (hO.o.alloc _) (Mr _) hg3;clear hat3 hg3)
      go_roundw
      case rel=>exact⟨q+1,n3,c3,A3,by omega,by omega,rfl,by go_num,Hz (by rw [hnext.o,hn3.o];simp;exact hn.o),by have:=hn3.o;omega,Hz (by rw [hnext.o];rw [Uu] at hown3;exact hown3),hb3⟩
      case measure=>simp [intOf];omega
  ·obtain rfl:n=64:=by omega
   have hR:=Rd.own hO.o
   rw [pb_full hq (by rw [←hn.o];exact hlt)] at hR
   go_wp2
   go_ret
   exact⟨A,c,rfl,hR,hbel⟩
end RefE
namespace RefC
open Kit ShaK RefM RefN RefB
theorem qxz {xs:List Nat} {j:Nat} (h:0<j) (hj:j≤xs.length):val (xs.drop (j-1))=xs.getD (j-1) 0+65536*val (xs.drop j):=by
 rw [List.drop_eq_getElem_cons (show j-1<xs.length by omega),Mg,Mq (show j-1<xs.length by omega)]
 simp only [val,Option.getD_some,Nat.sub_add_cancel h]
theorem Tn (xs:List Nat):val (xs.drop xs.length)=0:=by rw [List.drop_of_length_le (Mr _)];rfl
theorem all_step {xs:List Nat} {t:Nat} (ht:t<xs.length) (h:(xs.take t).all (·==0)=true):(xs.take (t+1)).all (·==0)=(xs.getD t 0==0):=by
 rw [List.take_succ_eq_append_getElem ht,List.all_append,h,Mg,Mq ht]
 simp
theorem all_not {xs:List Nat} {t e:Nat} (he:t<e) (ht:t<xs.length) (h:xs.getD t 0≠0):(xs.take e).all (·==0)=false:=by
 rw [List.all_eq_false]
 refine⟨xs.getD t 0,?_,by simpa using h⟩
 rw [Mg,Mq ht]
 rw [List.mem_take_iff_getElem]
 exact⟨t,by omega,rfl⟩
theorem fits_any (m p d:Nat) (w:World) (hm:m<281474976710656) (hp:p≤65535) (hd:d≤3) :
 Calls Tryz.prog 219 #[.int .i64 (m:Nat),.int .i64 (p:Nat),.int .i64 (d:Nat)] w fun e w'=>e=.returned (.bool (fit m p d))∧Bw w w':=by
 obtain⟨f,hf⟩:∃f,f=fit m p d:=⟨_,rfl⟩
 rw [←hf]
 have HF:=Hz hf
 clear hf
 have B0:Hid (Blk (w.alloc (.cells #[.int .i64 1] 3)) w.heap.size 3 (i64n [1])):=Hz (heap_alloc_new w _)
 go_enter Tryz.func219,Tryz.ntmps219
 go_wp2
 go_loopw [7,8] (fun x i wr=>∃k n c:Nat,∃A,∃xs:List Nat,k≤d∧i=.int .i64 k∧x=.slice A n c∧Hid (Rd wr A n c (i64n xs))∧Hid (digs xs)∧Hid (n=1+4*k)∧Hid (val xs=m ^ k)∧Bw w wr) (fun _ i _=>d-(intOf i).toNat)
 case atStart=>exact⟨0,1,1,_,[1],Nat.zero_le _,rfl,rfl,Hz (blk_rd B0.o (by decide)),Hz (by intro x hx;simp at hx;omega),Hz rfl,Hz rfl,(Mb _ _).alloc (Mr _) _⟩
 case round=>
  clear B0
  obtain⟨k,n,c,A,xs,hk,rfl,rfl,hR,hD,hn,hv,hbel⟩:=hrel
  by_cases hlt:k<d
  ·have h13:n≤13:=by have:=hn.o;omega
   have HT:=Hz (times_any A n c xs m wr hR.o hD.o h13 hm)
   go_wp2_with (go_at_call 222;refine HT.o.mono ?_;rintro e w2 ⟨o,rfl,hB2,ho2,hd2,hv2,hb2⟩)
   replace hB2:=Hz hB2
   replace hv2:=Hz hv2
   replace hd2:=Hz hd2
   go_roundw
   case rel=>
    refine⟨k+1,n+4,n+4,_,o,by omega,by go_num,rfl,Hz ?_,hd2,Hz (by have:=hn.o;omega),Hz (by rw [hv2.o,hv.o,Nat.pow_succ]),hbel.trans (hb2.mono hbel.size)⟩
    rw [←ho2]
    exact blk_rd hB2.o (by omega)
   case measure=>simp [intOf];omega
  ·obtain rfl:k=d:=by omega
   have hxl:Hid (xs.length=n):=Hz (by have:=hR.o.len;rwa [Wz] at this)
   have hn2:2*k≤n:=by have:=hn.o;omega
   have hn16:n≤13:=by have:=hn.o;omega
   have hvd:=hv.o
   go_wp2
   go_loop [9,10] (fun q i=>∃j t:Nat,2*k≤j∧j≤n∧i=.int .i64 ((j:Int)-1)∧q=.int .i64 t∧Hid (t=val (xs.drop j))∧t≤p) (fun _ i=>((intOf i)+1).toNat)
   case atStart=>exact⟨n,0,hn2,Mr _,by go_num,rfl,Hz (by rw [←hxl.o,Tn]),Nat.zero_le _⟩
   case round=>
    obtain⟨j,t,hj,hjn,rfl,rfl,ht,htp⟩:=hrel
    by_cases hlt:2*k<j
    ·obtain⟨b,off,rfl,cX⟩:=W7 (k:=j-1) hR.o (by omega)
     have hv2:Hid (val (xs.drop (j-1))=xs.getD (j-1) 0+65536*t):=Hz (by rw [ht.o];exact qxz (by omega) (by have:=hxl.o;omega))
     have hdg:=Tt hD.o (j-1)
     have hno:xs.getD (j-1) 0+65536*t > p→fit m p k=false:=fun h=>fit_no (j:=j-1) hD.o hvd (by omega) (by have:=hxl.o;omega) (by rw [hv2.o];exact h)
     have hno':=Hz hno
     have w0:IntKind.i64.wrap ((j:Int)-1)=(j:Int)-1:=by rw [Mi_];omega
     have t0:((j:Int)-1).toNat=j-1:=by omega
     have p0:(0:Int)≤(j:Int)-1:=by omega
     have q0:(j:Int)-1<(n:Int):=by omega
     clear hno
     generalize xs.getD (j-1) 0=y at *
     go_wp2
     ·go_ret
      exact⟨Q0 (by rw [HF.o,hno'.o (by omega)]),hbel⟩
     ·go_round
      case rel=>exact⟨j-1,65536*t+y,by omega,by omega,by go_num,by go_num,Hz (by rw [hv2.o];omega),by omega⟩
      case measure=>simp [intOf];omega
    ·obtain rfl:j=2*k:=by omega
     have hxl2:2*k≤xs.length:=by have:=hxl.o;omega
     by_cases hlp:t<p
     ·have hy:=Hz (fit_yes hD.o hvd hxl2 (by rw [←ht.o];exact hlp))
      go_wp2
      go_ret
      exact⟨Q0 (by rw [HF.o,hy.o]),hbel⟩
     ·obtain rfl:t=p:=by omega
      have he:=Hz (fit_even hD.o hvd hxl2 ht.o.symm)
      go_wp2
      go_loop [11] (fun i=>∃s:Nat,s≤2*k∧i=.int .i64 s∧Hid ((xs.take s).all (·==0)=true)) (fun i=>2*k-(intOf i).toNat)
      case atStart=>exact⟨0,Nat.zero_le _,rfl,Hz rfl⟩
      case round=>
       obtain⟨s,hs,rfl,ha⟩:=hrel
       by_cases hlt3:s<2*k
       ·obtain⟨b,off,rfl,cX⟩:=W7 (k:=s) hR.o (by omega)
        have hst:=Hz (all_step (xs:=xs) (t:=s) (by omega) ha.o)
        have hno:xs.getD s 0≠0→(xs.take (2*k)).all (·==0)=false:=all_not hlt3 (by omega)
        have hno':=Hz hno
        have hsn:s<n:=by omega
        clear hno
        generalize xs.getD s 0=y at *
        go_wp2
        ·go_ret
         exact⟨Q0 (by rw [HF.o,he.o,hno'.o (by omega)]),hbel⟩
        ·go_round
         case rel=>exact⟨s+1,by omega,by go_num,Hz (by rw [hst.o];simp;omega)⟩
         case measure=>simp [intOf];omega
       ·obtain rfl:s=2*k:=by omega
        go_wp2
        go_ret
        exact⟨Q0 (by rw [HF.o,he.o,ha.o]),hbel⟩
end RefC
namespace RefA
open Kit
theorem Vw (a:Nat) (ha:a<9223372036854775808):(BitVec.ofInt 64 (a:Int)).toNat=a:=by
 rw [BitVec.ofInt_natCast,BitVec.toNat_ofNat];exact Nat.mod_eq_of_lt (by omega)
theorem W9 {a b:Nat} (ha:a<4294967296) (hb:b<4294967296):bits .and .i64 (a:Int) (b:Int)=((a&&&b:Nat):Int):=by
 have hx:a&&&b<2 ^ 63:=Nat.and_lt_two_pow _ (by omega)
 show IntKind.i64.wrap ((BitVec.ofInt 64 (a:Int)&&&BitVec.ofInt 64 (b:Int)).toNat:Int)=_
 rw [BitVec.toNat_and,Vw a (by omega),Vw b (by omega),Mi_]
 omega
theorem qzt {a b:Nat} (ha:a<4294967296) (hb:b<4294967296):bits .or .i64 (a:Int) (b:Int)=((a ||| b:Nat):Int):=by
 have hx:a ||| b<2 ^ 63:=Nat.or_lt_two_pow (by omega) (by omega)
 show IntKind.i64.wrap ((BitVec.ofInt 64 (a:Int) ||| BitVec.ofInt 64 (b:Int)).toNat:Int)=_
 rw [BitVec.toNat_or,Vw a (by omega),Vw b (by omega),Mi_]
 omega
theorem Yh {a b:Nat} (ha:a<4294967296) (hb:b<4294967296):bits .xor .i64 (a:Int) (b:Int)=((a^^^b:Nat):Int):=by
 have hx:a^^^b<2 ^ 63:=Nat.xor_lt_two_pow (by omega) (by omega)
 show IntKind.i64.wrap ((BitVec.ofInt 64 (a:Int)^^^BitVec.ofInt 64 (b:Int)).toNat:Int)=_
 rw [BitVec.toNat_xor,Vw a (by omega),Vw b (by omega),Mi_]
 omega
theorem power_any (n:Nat) (w:World) (hn:n≤61):Calls Tryz.prog 202 #[.int .i64 (n:Nat)] w fun e w'=>e=.returned (.int .i64 (2 ^ n:Nat))∧w=w':=by
 obtain⟨P,hP⟩:∃P,P=2 ^ n:=⟨_,rfl⟩
 rw [←hP]
 have HP:=Hz hP
 clear hP
 go_enter Tryz.func202,Tryz.ntmps202
 go_wp2
 go_loop [3,4] (fun x i=>∃k y:Nat,k≤n∧i=.int .i64 k∧x=.int .i64 (y:Nat)∧Hid (y=2 ^ k)) (fun _ i=>n-(intOf i).toNat)
 case atStart=>exact⟨0,1,Nat.zero_le _,rfl,rfl,Hz rfl⟩
 case round=>
  obtain⟨k,y,hk,rfl,rfl,hy⟩:=hrel
  by_cases hlt:k<n
  ·have hb:y≤2305843009213693952:=by
    rw [hy.o]
    exact Ml (Nat.pow_le_pow_right (by decide) (show k≤61 by omega)) (by decide)
   go_wp2
   go_round
   case rel=>exact⟨k+1,y+y,by omega,by go_num,by go_num,Hz (by rw [Nat.pow_succ,←hy.o];omega)⟩
   case measure=>simp [intOf];omega
  ·obtain rfl:k=n:=by omega
   go_wp2
   go_ret
   exact⟨Qg (by rw [hy.o,HP.o]),rfl⟩
theorem mod_any (n:Nat) (w:World):Calls Tryz.prog 216 #[.int .i64 (n:Nat)] w fun e w'=>e=.returned (.int .i64 (n%4294967296:Nat))∧w=w':=by
 go_enter Tryz.func216,Tryz.ntmps216
 go_wp2
 go_ret
 exact⟨Qg (by omega),rfl⟩
end RefA
namespace RefD
open Kit RefM RefA RefC
theorem fit_zero {p d:Nat} (hd:0<d):fit 0 p d=true:=by
 unfold fit
 rw [Nat.zero_pow hd]
 simp
theorem fit_high {p d:Nat} (h:p<8 ^ d):fit 34359738368 p d=false:=by
 unfold fit
 have e:34359738368 ^ d=8 ^ d*4294967296 ^ d:=by rw [←Nat.mul_pow]
 rw [e]
 simp only [decide_eq_false_iff_not]
 have h2:0<4294967296 ^ d:=Nat.pow_pos (by decide)
 have h3:=Nat.mul_lt_mul_of_pos_right h h2
 omega
theorem fit_one {r s p d:Nat} (h1:fit r p d=true) (h2:fit (r+1) p d=false) (h3:fit s p d=true) (h4:fit (s+1) p d=false):s=r:=by
 unfold fit at h1 h2 h3 h4
 simp only [decide_eq_true_eq,decide_eq_false_iff_not,Nat.not_le] at h1 h2 h3 h4
 exact qxy h3 h4 h1 h2
theorem qqi (p d r:Nat) (w:World) (hd0:0<d) (hd:d≤3) (hp:p<8 ^ d) (hp2:p≤65535) (h1:fit r p d=true) (h2:fit (r+1) p d=false) :
 Calls Tryz.prog 205 #[.int .i64 (p:Nat),.int .i64 (d:Nat)] w fun e w'=>e=.returned (.int .i64 (r%4294967296:Nat))∧Bw w w':=by
 have H1:=Hz (fit_zero (p:=p) hd0)
 have H2:=Hz (fit_high hp)
 have HR:=Hz (fun s (h3:fit s p d=true) (h4:fit (s+1) p d=false)=>fit_one h1 h2 h3 h4)
 have HP:=Hz hp
 clear h1 h2 hp
 go_enter Tryz.func205,Tryz.ntmps205
 go_wp2
 go_loopw [5,6,7] (fun l h _ wr=>∃a b:Nat,a<b∧b≤34359738368∧l=.int .i64 a∧h=.int .i64 b∧Hid (fit a p d=true)∧Hid (fit b p d=false)∧Bw w wr) (fun l h _ _=>(intOf h-intOf l).toNat)
 case atStart=>exact⟨0,34359738368,by omega,by omega,rfl,rfl,H1,H2,Mb _ _⟩
 case round=>
  clear H1 H2
  obtain⟨a,b,hab,hb,rfl,rfl,hA,hB,hbel⟩:=hrel
  by_cases hlt:1<b-a
  ·obtain⟨m,hm⟩:∃m,m=(a+b)/2:=⟨_,rfl⟩
   have em:((a:Int)+(b:Int))/2=(m:Int):=by omega
   have hm1:a<m:=by omega
   have hm2:m<b:=by omega
   clear hm
   have HFt:=Hz (fits_any m p d wr (by omega) hp2 hd)
   rcases hf:fit m p d with _|_
   ·rw [hf] at HFt
    go_wp2_with (go_at_call 219;refine (HFt.o).mono ?_;rintro e w2 ⟨rfl,hb2⟩)
    go_roundw
    case rel=>exact⟨a,m,hm1,by omega,rfl,rfl,hA,Hz hf,hbel.trans (hb2.mono hbel.size)⟩
    case measure=>simp [intOf];omega
   ·rw [hf] at HFt
    go_wp2_with (go_at_call 219;refine (HFt.o).mono ?_;rintro e w2 ⟨rfl,hb2⟩)
    go_roundw
    case rel=>exact⟨m,b,hm2,hb,rfl,rfl,Hz hf,hB,hbel.trans (hb2.mono hbel.size)⟩
    case measure=>simp [intOf];omega
  ·obtain rfl:b=a+1:=by omega
   go_wp2_with (go_at_call 216;refine (mod_any a _).mono ?_;rintro e w' ⟨rfl,rfl⟩)
   go_ret
   exact⟨Qg (by have:=HR.o a hA.o hB.o;omega),hbel⟩
end RefD
namespace RefH
open ShaM RefM RefD
theorem root2 (i:Nat) (hi:i<8) (w:World):Calls Tryz.prog 205 #[.int .i64 (PL.getD i 0:Nat),.int .i64 2] w fun e w'=>e=.returned (.int .i64 (w0.list.getD i 0:Nat))∧Bw w w':=by
 obtain⟨h1,h2,h3⟩:=roots2 i hi
 have hp:=PL_lt2 i hi
 have:=qqi (PL.getD i 0) 2 (R2 i) w (by decide) (by decide) (Mw hp (by decide)) (by omega) (decide_eq_true h1) (decide_eq_false (Nat.not_le_of_lt h2))
 rw [h3] at this
 exact this
theorem root3 (i:Nat) (hi:i<64) (w:World):Calls Tryz.prog 205 #[.int .i64 (PL.getD i 0:Nat),.int .i64 3] w fun e w'=>e=.returned (.int .i64 (KT.getD i 0:Nat))∧Bw w w':=by
 obtain⟨h1,h2,h3⟩:=roots3 i hi
 have hp:=(PL_lt i hi).2
 have:=qqi (PL.getD i 0) 3 (R3 i) w (by decide) (by decide) (Mw hp (by decide)) (by omega) (decide_eq_true h1) (decide_eq_false (Nat.not_le_of_lt h2))
 rw [h3] at this
 exact this
end RefH
end Go.Proofs.YtecncggeomcdbaaGreatDoor
