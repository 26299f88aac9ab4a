/- Parts of the proof, each under the conditions that it names. -/
import Derived.Test.YtpidbddllnidhaaGreatDoorO02
set_option maxRecDepth 100000
set_option maxHeartbeats 12800000
namespace Go.Proofs.YtpidbddllnidhaaGreatDoor
open Go.RowKit
namespace ShaB
open Kit ShaM ShaA
def ws (v:W8):Array Value:=#[.int .u32 (v.a:Nat),.int .u32 (v.b:Nat),.int .u32 (v.c:Nat),.int .u32 (v.d:Nat),.int .u32 (v.e:Nat),.int .u32 (v.f:Nat),.int .u32 (v.g:Nat),.int .u32 (v.h:Nat)]
theorem max32:IntKind.u32.max=4294967295:=by kernel_rfl
theorem not32 (x:Nat) (hx:x<4294967296):4294967295^^^x=4294967295-x:=by
 have h:(BitVec.allOnes 32^^^BitVec.ofNat 32 x) = ~~~ BitVec.ofNat 32 x:=by rw [BitVec.xor_comm,BitVec.xor_allOnes]
 have h2:=congrArg BitVec.toNat h
 rw [BitVec.toNat_xor,BitVec.toNat_not,BitVec.toNat_allOnes,BitVec.toNat_ofNat,Nat.mod_eq_of_lt (by omega)] at h2
 exact h2
theorem not_any {x:Nat} (hx:x<4294967296):bits .xor .u32 IntKind.u32.max (x:Int)=((4294967295-x:Nat):Int):=by
 rw [max32]
 have h:=xor32 (x:=4294967295) (y:=x) (by decide) hx
 rw [not32 x hx] at h
 exact h
theorem Th:IntKind.u32.signed=false:=by kernel_rfl
theorem qq6 (v:W8) (w:World) (hv:v.ok):Calls Tryz.prog 217 #[.agg (ws v)] w fun e w'=>e=.returned (.int .u32 (ch v.e v.f v.g:Nat))∧w.alloc (.cells (ws v) 233)=w':=by
 obtain⟨a,b,c,d,e,f,g,h⟩:=v
 obtain⟨_,_,_,_,he,hf,hg,_⟩:=hv
 simp only at he hf hg
 unfold ws
 simp only
 have hn:=not_any he
 have hs:=Th
 go_enter Tryz.func217,Tryz.ntmps217
 go_wp2
 go_ret
 refine⟨Qg ?_,rfl⟩
 rw [and32 he hf,and32 (by omega) hg,or32 (and_lt hf) (and_lt hg)]
 rfl
theorem U6 (v:W8) (w:World) (hv:v.ok):Calls Tryz.prog 218 #[.agg (ws v)] w fun e w'=>e=.returned (.int .u32 (mj v.a v.b v.c:Nat))∧w.alloc (.cells (ws v) 233)=w':=by
 obtain⟨a,b,c,d,e,f,g,h⟩:=v
 obtain⟨ha,hb,hc,_⟩:=hv
 simp only at ha hb hc
 unfold ws
 simp only
 go_enter Tryz.func218,Tryz.ntmps218
 go_wp2
 go_ret
 refine⟨Qg ?_,rfl⟩
 rw [and32 ha hb,and32 ha hc,and32 hb hc,or32 (and_lt hb) (and_lt hc),or32 (or_lt (and_lt hb) (and_lt hc)) (and_lt hc)]
 rfl
theorem low_eq {a b c d e f g h:Nat} (he:e<4294967296):IntKind.u32.wrap (IntKind.u32.wrap ((h:Int)+bits .xor .u32 (bits .xor .u32 ((rt e 6:Nat):Int) ((rt e 11:Nat):Int)) ((rt e 25:Nat):Int))+((ch e f g:Nat):Int))=((low ⟨a,b,c,d,e,f,g,h⟩:Nat):Int):=by
 rw [xor32 (rt_lt he (by decide)) (rt_lt he (by decide)),xor32 (xor_lt (rt_lt he (by decide)) (rt_lt he (by decide))) (rt_lt he (by decide)),IntKind.wrap_u32,IntKind.wrap_u32]
 unfold low g1
 simp only
 omega
theorem high_eq {a b c d e f g h:Nat} (ha:a<4294967296):IntKind.u32.wrap (bits .xor .u32 (bits .xor .u32 ((rt a 2:Nat):Int) ((rt a 13:Nat):Int)) ((rt a 22:Nat):Int)+((mj a b c:Nat):Int))=((high ⟨a,b,c,d,e,f,g,h⟩:Nat):Int):=by
 rw [xor32 (rt_lt ha (by decide)) (rt_lt ha (by decide)),xor32 (xor_lt (rt_lt ha (by decide)) (rt_lt ha (by decide))) (rt_lt ha (by decide)),IntKind.wrap_u32]
 unfold high g0
 simp only
 omega
theorem low_any (v:W8) (w:World) (hv:v.ok):Calls Tryz.prog 205 #[.agg (ws v)] w fun e w'=>e=.returned (.int .u32 (low v:Nat))∧Bw w w':=by
 have hch:=qq6 v
 obtain⟨a,b,c,d,e,f,g,h⟩:=v
 have hv':=hv
 obtain⟨ha,hb,hc,hd,he,hf,hg,hh⟩:=hv
 simp only at ha hb hc hd he hf hg hh
 unfold ws
 go_enter Tryz.func205,Tryz.ntmps205
 go_wp2_with fail
 go_region_held3 (fun w'=>w'.cell? ⟨w.heap.size,0,none⟩=some (.int .u32 (a:Nat))∧w'.cell? ⟨w.heap.size,1,none⟩=some (.int .u32 (b:Nat))∧w'.cell? ⟨w.heap.size,2,none⟩=some (.int .u32 (c:Nat))∧w'.cell? ⟨w.heap.size,3,none⟩=some (.int .u32 (d:Nat))∧w'.cell? ⟨w.heap.size,4,none⟩=some (.int .u32 (e:Nat))∧w'.cell? ⟨w.heap.size,5,none⟩=some (.int .u32 (f:Nat))∧w'.cell? ⟨w.heap.size,6,none⟩=some (.int .u32 (g:Nat))∧w'.cell? ⟨w.heap.size,7,none⟩=some (.int .u32 (h:Nat))) (go_keep)
  (first
   | (go_at_call 216;refine (rot6 _ _ he).mono ?_;rintro e w' ⟨rfl,rfl⟩)
   | (go_at_call 216;refine (rot11 _ _ he).mono ?_;rintro e w' ⟨rfl,rfl⟩)
   | (go_at_call 216;refine (rot25 _ _ he).mono ?_;rintro e w' ⟨rfl,rfl⟩)
   | (go_at_call 217;refine (hch _ hv').mono ?_;rintro e w' ⟨rfl,rfl⟩))
 go_wp2
 go_ret
 exact⟨Qg (low_eq he),((((Mb _ _).alloc (Mr _) _).alloc (by simp) _)).drew⟩
theorem qxp (v:W8) (w:World) (hv:v.ok):Calls Tryz.prog 206 #[.agg (ws v)] w fun e w'=>e=.returned (.int .u32 (high v:Nat))∧Bw w w':=by
 have hch:=U6 v
 obtain⟨a,b,c,d,e,f,g,h⟩:=v
 have hv':=hv
 obtain⟨ha,hb,hc,hd,he,hf,hg,hh⟩:=hv
 simp only at ha hb hc hd he hf hg hh
 unfold ws
 go_enter Tryz.func206,Tryz.ntmps206
 go_wp2_with fail
 go_region_held3 (fun w'=>w'.cell? ⟨w.heap.size,0,none⟩=some (.int .u32 (a:Nat))∧w'.cell? ⟨w.heap.size,1,none⟩=some (.int .u32 (b:Nat))∧w'.cell? ⟨w.heap.size,2,none⟩=some (.int .u32 (c:Nat))∧w'.cell? ⟨w.heap.size,3,none⟩=some (.int .u32 (d:Nat))∧w'.cell? ⟨w.heap.size,4,none⟩=some (.int .u32 (e:Nat))∧w'.cell? ⟨w.heap.size,5,none⟩=some (.int .u32 (f:Nat))∧w'.cell? ⟨w.heap.size,6,none⟩=some (.int .u32 (g:Nat))∧w'.cell? ⟨w.heap.size,7,none⟩=some (.int .u32 (h:Nat))) (go_keep)
  (first
   | (go_at_call 216;refine (rot2 _ _ ha).mono ?_;rintro e w' ⟨rfl,rfl⟩)
   | (go_at_call 216;refine (rot13 _ _ ha).mono ?_;rintro e w' ⟨rfl,rfl⟩)
   | (go_at_call 216;refine (rot22 _ _ ha).mono ?_;rintro e w' ⟨rfl,rfl⟩)
   | (go_at_call 218;refine (hch _ hv').mono ?_;rintro e w' ⟨rfl,rfl⟩))
 go_wp2
 go_ret
 exact⟨Qg (high_eq ha),((((Mb _ _).alloc (Mr _) _).alloc (by simp) _)).drew⟩
end ShaB
end Go.Proofs.YtpidbddllnidhaaGreatDoor
