/- The parts that this claim uses of: ShaC. Conditions: those that each law names. -/
import Derived.Test.YtkepomnbhnnliaaGreatDoorK04
set_option maxRecDepth 100000
set_option maxHeartbeats 12800000
namespace Go.Proofs.YtkepomnbhnnliaaGreatDoor
namespace ShaC
open Go.RowKit Kit Byt ShaM ShaA ShaB
theorem ret_row {P:Program} {fn:Func} {p:Tmp} {ty:TypeId} {R:Ending→World→Prop} {a:Act} {w:World} {g:Nat} {t:TypeId} {cs:Array Value} {fr:Nat×Nat} {d:TypeDesc} (h:fn.results = #[.cell p ty]) (h0:a.defers=[])
 (hp:a.tmps.getD p undef=.pointer (some ⟨g,0,none⟩)) (hg:w.heap[g]?=some (.cells cs t fr)) (hu:P.underlying ty=some d) (hd:(match d with | .struct _ | .array _ _=>true|_=>false)=true) (hi:(P.info? ty).map (·.size)=some cs.size)
 (hR:R (.returned (.agg cs)) w):bodyPost P fn R .ret a w:=
 bodyPost_ret (results_cell_row h _ w g t cs fr d hp hg hu hd hi) h0 hR
theorem heap_alloc_at {w:World} {o:Obj} {n:Nat} (h:n=w.heap.size):(w.alloc o).heap[n]?=some o:=by subst h;exact heap_alloc_new w o
theorem size_words:(Tryz.prog.info? 226).map (·.size)=some 8:=by kernel_rfl
theorem ws_size (v:W8):(ws v).size=8:=rfl
theorem first_any (w:World):Calls Tryz.prog 157 #[] w fun e w'=>e=.returned (.agg (ws w0))∧Below w.heap.size w w':=by
 go_enter Tryz.func157,Tryz.ntmps157
 go_wp2
 exact ret_row Tryz.results157 rfl rfl (heap_alloc_new w _) Tryz.underlying226 rfl size_words ⟨rfl,(Below.refl _ _).alloc (Nat.le_refl _) _⟩
theorem plus_any (v u:W8) (w:World):Calls Tryz.prog 231 #[.agg (ws v),.agg (ws u)] w fun e w'=>e=.returned (.agg (ws (plus v u)))∧Below w.heap.size w w':=by
 have hE:Hid (∀e:Ending,e=.returned (.agg #[.int .u32 (((v.a:Nat)+(u.a:Nat):Int)%4294967296),.int .u32 (((v.b:Nat)+(u.b:Nat):Int)%4294967296),.int .u32 (((v.c:Nat)+(u.c:Nat):Int)%4294967296),.int .u32 (((v.d:Nat)+(u.d:Nat):Int)%4294967296),.int .u32 (((v.e:Nat)+(u.e:Nat):Int)%4294967296),.int .u32 (((v.f:Nat)+(u.f:Nat):Int)%4294967296),.int .u32 (((v.g:Nat)+(u.g:Nat):Int)%4294967296),.int .u32 (((v.h:Nat)+(u.h:Nat):Int)%4294967296)])→e=.returned (.agg (ws (plus v u)))):=Hz (by
  intro e he
  rw [he]
  simp [ws,plus])
 generalize ws (plus v u)=z at *
 obtain⟨a,b,c,d,e,f,g,h⟩:=v
 obtain⟨a',b',c',d',e',f',g',h'⟩:=u
 unfold ws
 go_enter Tryz.func231,Tryz.ntmps231
 go_wp2
 exact ret_row Tryz.results231 rfl rfl (heap_alloc_at (by simp)) Tryz.underlying226 rfl size_words ⟨hE.out _ rfl,(((Below.refl _ _).alloc (Nat.le_refl _) _).alloc (by simp) _).alloc (by simp;omega) _⟩
theorem cells8 {w:World} {G:Nat} {t:TypeId} {a b c d e f g h:Value} (hg:w.heap[G]?=some (.cells #[a,b,c,d,e,f,g,h] t (0,0))) :
 w.cell? ⟨G,0,none⟩=some a∧w.cell? ⟨G,1,none⟩=some b∧w.cell? ⟨G,2,none⟩=some c∧w.cell? ⟨G,3,none⟩=some d∧w.cell? ⟨G,4,none⟩=some e∧w.cell? ⟨G,5,none⟩=some f∧w.cell? ⟨G,6,none⟩=some g∧w.cell? ⟨G,7,none⟩=some h:=by
 refine⟨?_,?_,?_,?_,?_,?_,?_,?_⟩ <;> (rw [cell_of_row w G _ _ _ _ hg];rfl)
theorem froz8 {w:World} {G:Nat} {t:TypeId} {cs:Array Value} (hg:w.heap[G]?=some (.cells cs t (0,0))) :
 w.frozen? ⟨G,0,none⟩=false∧w.frozen? ⟨G,1,none⟩=false∧w.frozen? ⟨G,2,none⟩=false∧w.frozen? ⟨G,3,none⟩=false∧w.frozen? ⟨G,4,none⟩=false∧w.frozen? ⟨G,5,none⟩=false∧w.frozen? ⟨G,6,none⟩=false∧w.frozen? ⟨G,7,none⟩=false:=by
 refine⟨?_,?_,?_,?_,?_,?_,?_,?_⟩ <;> exact frozen_of_row w G _ _ _ hg
theorem lt_some {w:World} {G:Nat} {o:Obj} (hg:w.heap[G]?=some o):G<w.heap.size:=by
 rcases Nat.lt_or_ge G w.heap.size with h|h
 ·exact h
 ·rw [Array.getElem?_eq_none h] at hg;cases hg
theorem alloc_old {w:World} {o o':Obj} {G:Nat} (h:w.heap[G]?=some o'):(w.alloc o).heap[G]?=some o':=(Below.heap_alloc w o G (lt_some h)).trans h
theorem block_below {w w':World} {G:Nat} {o:Obj} (hg:w.heap[G]?=some o) (hb:Below w.heap.size w w'):w'.heap[G]?=some o:=by
 exact (hb.block G (lt_some hg)).trans hg
theorem setL {w:World} {G:Nat} {t:TypeId} {C:List Value} (hg:w.heap[G]?=some (.cells C.toArray t (0,0))) (k:Nat) (v:Value):(w.setCell ⟨G,k,none⟩ v).heap[G]?=some (.cells (C.set k v).toArray t (0,0)):=by
 rw [heap_setCell_same w G k _ _ _ hg,List.setIfInBounds_toArray]
theorem set8 {w:World} {G:Nat} {t:TypeId} {a b c d e f g h:Value} (hg:w.heap[G]?=some (.cells #[a,b,c,d,e,f,g,h] t (0,0))) (v0 v1 v2 v3 v4 v5 v6 v7:Value) :
 ((((((((w.setCell ⟨G,0,none⟩ v0).setCell ⟨G,1,none⟩ v1).setCell ⟨G,2,none⟩ v2).setCell ⟨G,3,none⟩ v3).setCell ⟨G,4,none⟩ v4).setCell ⟨G,5,none⟩ v5).setCell ⟨G,6,none⟩ v6).setCell ⟨G,7,none⟩ v7).heap[G]?=some (.cells #[v0,v1,v2,v3,v4,v5,v6,v7] t (0,0)):=by
 have h7:=setL (setL (setL (setL (setL (setL (setL (setL hg 0 v0) 1 v1) 2 v2) 3 v3) 4 v4) 5 v5) 6 v6) 7 v7
 simpa only [List.set_cons_zero,List.set_cons_succ] using h7
theorem below8 {w0 w:World} {B G:Nat} (hb:Below B w0 w) (hG:B≤G) (v0 v1 v2 v3 v4 v5 v6 v7:Value) :
 Below B w0 ((((((((w.setCell ⟨G,0,none⟩ v0).setCell ⟨G,1,none⟩ v1).setCell ⟨G,2,none⟩ v2).setCell ⟨G,3,none⟩ v3).setCell ⟨G,4,none⟩ v4).setCell ⟨G,5,none⟩ v5).setCell ⟨G,6,none⟩ v6).setCell ⟨G,7,none⟩ v7):=
 (((((((hb.setCell hG _).setCell hG _).setCell hG _).setCell hG _).setCell hG _).setCell hG _).setCell hG _).setCell hG _
theorem round_any (v:W8) (n:Nat) (w:World) (hv:v.ok) (hn:n<4294967296):Calls Tryz.prog 228 #[.agg (ws v),.int .u32 (n:Nat),.func (.func 229) #[] #[],.func (.func 230) #[] #[]] w fun e w'=>e=.returned (.agg (ws (rnd v n)))∧Below w.heap.size w w':=by
 have hlo:=low_any v
 have hhi:=high_any v
 have hE:Hid (∀e:Ending,e=.returned (.agg #[.int .u32 (IntKind.u32.wrap (((n:Int)+(low v:Nat))%4294967296+(high v:Nat))),.int .u32 (v.a:Nat),.int .u32 (v.b:Nat),.int .u32 (v.c:Nat),.int .u32 (IntKind.u32.wrap ((v.d:Nat)+((n:Int)+(low v:Nat))%4294967296)),.int .u32 (v.e:Nat),.int .u32 (v.f:Nat),.int .u32 (v.g:Nat)])→e=.returned (.agg (ws (rnd v n)))):=Hz (by
  intro e he
  rw [he]
  have h1:IntKind.u32.wrap (((n:Int)+(low v:Nat))%4294967296+(high v:Nat))=(((n+low v+high v)%4294967296:Nat):Int):=by rw [IntKind.wrap_u32];omega
  have h2:IntKind.u32.wrap ((v.d:Nat)+((n:Int)+(low v:Nat))%4294967296)=(((v.d+(n+low v))%4294967296:Nat):Int):=by rw [IntKind.wrap_u32];omega
  rw [h1,h2]
  rfl)
 generalize ws (rnd v n)=z at *
 obtain⟨a,b,c,d,e,f,g,h⟩:=v
 have hv':=hv
 obtain⟨ha,hb,hc,hd,he,hf,hg,hh⟩:=hv
 simp only at ha hb hc hd he hf hg hh
 unfold ws at *
 go_enter Tryz.func228,Tryz.ntmps228
 go_wp2_with (go_at_call 229;refine (hlo _ hv').mono ?_;rintro e w1 ⟨rfl,hbl⟩)
 have B0:=block_below (G:=w.heap.size) (alloc_old (heap_alloc_new w _)) hbl
 have B1:=block_below (G:=w.heap.size+1) (heap_alloc_at (by simp)) hbl
 have hsz:w.heap.size+1<w1.heap.size:=lt_of_block B1
 obtain⟨c0,c1,c2,c3,c4,c5,c6,c7⟩:=cells8 B0
 have H1:=Hz B1
 clear B0 B1
 go_region_held3 (fun w'=>w'.cell? ⟨w.heap.size,0,none⟩=some (.int .u32 (a:Nat))∧w'.cell? ⟨w.heap.size,1,none⟩=some (.int .u32 (b:Nat))∧w'.cell? ⟨w.heap.size,2,none⟩=some (.int .u32 (c:Nat))∧w'.cell? ⟨w.heap.size,3,none⟩=some (.int .u32 (d:Nat))∧w'.cell? ⟨w.heap.size,4,none⟩=some (.int .u32 (e:Nat))∧w'.cell? ⟨w.heap.size,5,none⟩=some (.int .u32 (f:Nat))∧w'.cell? ⟨w.heap.size,6,none⟩=some (.int .u32 (g:Nat))∧w'.cell? ⟨w.heap.size,7,none⟩=some (.int .u32 (h:Nat)))
  (first
   | go_keep
   | (go_split_ands
      refine⟨?_,?_,?_,?_,?_,?_,?_,?_⟩ <;> (rw [hb2.cell (by simp;omega)];assumption)))
  ((go_at_call 230;refine (hhi _ hv').mono ?_;rintro e w2 ⟨rfl,hb2⟩;have B2:=block_below (w:=w1.drew) H1.out hb2;obtain⟨z0,z1,z2,z3,z4,z5,z6,z7⟩:=cells8 B2;obtain⟨f0,f1,f2,f3,f4,f5,f6,f7⟩:=froz8 B2;have H2:=Hz B2;clear B2))
 go_wp2
 have B2:=H2.out
 have hbw:Below w.heap.size w w2:=(((((Below.refl _ _).alloc (Nat.le_refl _) _).alloc (by simp) _).trans (hbl.mono (by simp;omega))).drew).trans (hb2.mono (by have:=hbl.size;simp at this;show w.heap.size≤w1.heap.size;omega))
 exact ret_row Tryz.results228 rfl rfl (set8 B2 _ _ _ _ _ _ _ _) Tryz.underlying226 rfl size_words ⟨hE.out _ rfl,below8 hbw (by omega) _ _ _ _ _ _ _ _⟩
end ShaC
end Go.Proofs.YtkepomnbhnnliaaGreatDoor
