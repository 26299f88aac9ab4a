/- The table of deeds, and a deed by its number; the machine in memory. Conditions: what is worked on lies as the facts say. -/
import Derived.Test.YtliiinffkcgcaaaVmcH
import Derived.Test.YtliiinffkcgcaaaImgB0
namespace Go.Proofs.Ytliiinffkcgcaaa.VmcI
open Go.RowKit Go.Proofs.Ytliiinffkcgcaaa.Kit Go.Proofs.Ytliiinffkcgcaaa.Byt Go.Proofs.Ytliiinffkcgcaaa.Mem Go.Proofs.Ytliiinffkcgcaaa.VmcM Go.Proofs.Ytliiinffkcgcaaa.VmcA Go.Proofs.Ytliiinffkcgcaaa.VmcB Go.Proofs.Ytliiinffkcgcaaa.VmcC Go.Proofs.Ytliiinffkcgcaaa.VmcD Go.Proofs.Ytliiinffkcgcaaa.VmcE Go.Proofs.Ytliiinffkcgcaaa.VmcF Go.Proofs.Ytliiinffkcgcaaa.VmcG Go.Proofs.Ytliiinffkcgcaaa.VmcH Go.Proofs.Ytliiinffkcgcaaa.PrtM Go.Proofs.Ytliiinffkcgcaaa.PrtA Go.Proofs.Ytliiinffkcgcaaa.PrtD Go.Proofs.Ytliiinffkcgcaaa.PrtE
open Go.Proofs.Ytliiinffkcgcaaa.ImgA (Im)
open Go.Proofs.Ytliiinffkcgcaaa.ImgB (right)
open Go.Proofs.Ytliiinffkcgcaaa.TabA (Tri)
open Go.Proofs.Ytliiinffkcgcaaa.BitM (hb)
open Go.Proofs.Ytliiinffkcgcaaa.TabE (ret_row)

/-- The function of each instruction. -/
def fnums : List FuncId := [58, 59, 60, 61, 62, 63, 64, 65, 66, 67, 68, 69, 70, 71, 72, 73, 74, 75, 76]
def fnum (o : Nat) : FuncId := fnums.getD o 0
def dcells : List Value := fnums.map fun k => .func (.func k) #[] #[]
theorem run_index_fn {P : Program} {t e : TypeId} {n k : Nat} {xs : List Value} {v : Value} {ps rs : Array TypeId} {vb : Bool} (ht : P.underlying t = some (.array n e)) (hd : P.underlying e = some (.func ps rs vb)) (hi : (P.info? e).map (·.size) = some 1) (hk : k < n) (hv : xs[k]? = some v) (w : World) :
    (Instr.index t (.agg xs.toArray) (.int .i64 (k : Int))).run P w = .ok v w := by
  cases hq : P.info? e with
  | none => simp [hq] at hi
  | some i =>
    have hs : i.size = 1 := by simpa [hq] using hi
    simp [Instr.index, run_underlying ht, asIntOf, sizeOf, typeInfo, hq, hs, hk, part, isAgg, run_underlying hd, hv]
set_option maxRecDepth 100000 in
theorem index_deed {o : Nat} (ho : o ≤ 18) (w : World) : (Instr.index 131 (.agg dcells.toArray) (.int .i64 (o : Nat))).run Try.prog w = .ok (.func (.func (fnum o)) #[] #[]) w := by
  have hv : dcells[o]? = some (.func (.func (fnum o)) #[] #[]) := by
    have hl : o < fnums.length := by show o < 19; omega
    unfold dcells fnum
    rw [List.getElem?_map, List.getD_eq_getElem?_getD, List.getElem?_eq_getElem hl]
    rfl
  exact run_index_fn Try.underlying131 Try.underlying130 (by kernel_rfl) (by omega) hv w
section
variable {B S n c b ob : Nat} {w : World} {ρ : Nat → Lab} {A : Option Addr} {Q : Nat → Nat} {C : List Tri} {i : Im} {r : R}
/-- A deed, by its number. -/
theorem deed_any (h : Wk B w ρ b i ob S A n c Q C r) (hi : right i) {o : Nat} (ho : o ≤ 18) (a : Nat) (ha : a ≤ 255) (hsn : r.sn.length ≤ 100000) :
    Calls Try.prog (fnum o) #[.pointer (some ⟨b, 0, none⟩), .int .i64 a] w (Deeds B w ρ b i ob S A n c Q C (deedR i C o a r)) := by
  obtain ⟨h1, h2, h3, ⟨h4, h5⟩, h6, h7, h8, h9, h10⟩ := hi
  have hn : i.n ≤ 1000 := by omega
  have k1 := h.ok
  have k2 := h.wb
  have key : ∀ (f : FuncId) (o : Int) (u : V), Calls Try.prog f #[.pointer (some ⟨b, 0, none⟩), .int .i64 a] w (Did b i (pv S) ob w (.tuple #[]) u r.e) → u.ok → deedR i C o a r = { r with v := u } → Calls Try.prog f #[.pointer (some ⟨b, 0, none⟩), .int .i64 a] w (Deeds B w ρ b i ob S A n c Q C (deedR i C o a r)) := fun f o u hc hu he => by
    rw [he]
    exact hc.mono fun e w' hd => h.deed hd hu
  have dk : ∀ o : Int, (deed i o a r.v).ok := fun o => k1.deed i o a
  match o, ho with
  | 0, _ => exact (yield_any k1 k2 a).mono fun e w' hd => h.deed hd k1
  | 1, _ => exact key _ 1 _ (lay_any k1 k2 a) (dk 1) (by simp [deedR, deed])
  | 2, _ => exact key _ 2 _ (drop_any k1 k2 a) (dk 2) (by simp [deedR, deed])
  | 3, _ => exact key _ 3 _ (dup_any k1 k2 a) (dk 3) (by simp [deedR, deed])
  | 4, _ => exact key _ 4 _ (swap_any k1 k2 a) (dk 4) (by simp [deedR, deed])
  | 5, _ => exact key _ 5 _ (add_any k1 k2 a) (dk 5) (by simp [deedR, deed])
  | 6, _ => exact key _ 6 _ (sub_any k1 k2 a) (dk 6) (by simp [deedR, deed])
  | 7, _ => exact key _ 7 _ (mul_any k1 k2 a) (dk 7) (by simp [deedR, deed])
  | 8, _ => exact key _ 8 _ (less_any k1 k2 a) (dk 8) (by simp [deedR, deed])
  | 9, _ => exact key _ 9 _ (same_any k1 k2 a) (dk 9) (by simp [deedR, deed])
  | 10, _ => exact key _ 10 _ (load_any k1 k2 h5 a) (dk 10) (by simp [deedR, deed])
  | 11, _ => exact key _ 11 _ (store_any k1 k2 h5 a) (dk 11) (by simp [deedR, deed])
  | 12, _ => exact key _ 12 _ (jump_any k1 k2 hn a) (dk 12) (by simp [deedR, deed])
  | 13, _ => exact key _ 13 _ (zero_any k1 k2 hn a) (dk 13) (by simp [deedR, deed])
  | 14, _ => exact send_any h a ha h7 hsn
  | 15, _ => exact get_any h a ha h8
  | 16, _ => exact confirm_any h a
  | 17, _ => exact key _ 17 _ (halt_any k1 k2 a) (dk 17) (by simp [deedR, deed])
  | 18, _ => exact key _ 18 _ (now_any k1 k2 a) (dk 18) (by simp [deedR, deed])
  | o + 19, h => exact absurd h (by omega)
end
theorem size_deeds : (Try.prog.info? 131).map (·.size) = some dcells.length := by kernel_rfl
theorem dcells_one : ∀ u ∈ dcells, u.oneCell' = true := by
  intro u hu
  unfold dcells at hu
  rw [List.mem_map] at hu
  obtain ⟨k, _, rfl⟩ := hu
  rfl
set_option maxRecDepth 100000 in
theorem deeds_any (w : World) : Calls Try.prog 47 #[] w fun e w' => e = .returned (.agg dcells.toArray) ∧ Below w.heap.size w w' := by
  go_enter Try.func47, Try.ntmps47
  go_wp2_with (refine wpList_store_blk rfl 131 (.tmp 0) (.tmp 1) rfl w.heap.size rfl dcells rfl (Blk.new w 131 (List.replicate 19 .nilFunc)) rfl size_deeds dcells_one ?_; intro w1 hB1 ho1)
  exact ret_row Try.results47 rfl rfl hB1.out Try.underlying131 rfl (by simpa using size_deeds) ⟨rfl, ho1.out.below ((Below.refl _ _).alloc (Nat.le_refl _) _) (Nat.le_refl _) (by simp)⟩
end Go.Proofs.Ytliiinffkcgcaaa.VmcI
