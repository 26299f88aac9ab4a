/- The machine in memory; one step. Conditions: the machine, the channels and what is told lie as the facts say. -/
import Derived.Test.YtliiinffkcgcaaaVmcI
import Derived.Test.YtliiinffkcgcaaaOpsN2
namespace Go.Proofs.Ytliiinffkcgcaaa.VmcJ
open Go.RowKit Go.Proofs.Ytliiinffkcgcaaa.Kit Go.Proofs.Ytliiinffkcgcaaa.Byt Go.Proofs.Ytliiinffkcgcaaa.Mem Go.Proofs.Ytliiinffkcgcaaa.OpsM Go.Proofs.Ytliiinffkcgcaaa.OpsA Go.Proofs.Ytliiinffkcgcaaa.VmcM Go.Proofs.Ytliiinffkcgcaaa.VmcA Go.Proofs.Ytliiinffkcgcaaa.VmcB Go.Proofs.Ytliiinffkcgcaaa.VmcC Go.Proofs.Ytliiinffkcgcaaa.VmcD Go.Proofs.Ytliiinffkcgcaaa.VmcE Go.Proofs.Ytliiinffkcgcaaa.VmcF Go.Proofs.Ytliiinffkcgcaaa.VmcG Go.Proofs.Ytliiinffkcgcaaa.VmcH Go.Proofs.Ytliiinffkcgcaaa.VmcI Go.Proofs.Ytliiinffkcgcaaa.PrtM Go.Proofs.Ytliiinffkcgcaaa.PrtA Go.Proofs.Ytliiinffkcgcaaa.PrtD Go.Proofs.Ytliiinffkcgcaaa.PrtE
open Go.Proofs.Ytliiinffkcgcaaa.ImgA (Im)
open Go.Proofs.Ytliiinffkcgcaaa.ImgB (right)
open Go.Proofs.Ytliiinffkcgcaaa.TabA (Tri)
open Go.Proofs.Ytliiinffkcgcaaa.BitA (i64s)
open Go.Proofs.Ytliiinffkcgcaaa.BitM (hb)

def mc (i : Im) (v : V) : List Value := i.cells ++ scells v
theorem mc_len {v : V} (h : v.ok) (i : Im) : (mc i v).length = 36 := by
  unfold mc
  rw [List.length_append, sc_len h]
  rfl
theorem mc_st (i : Im) (v : V) (k : Nat) : (mc i v)[8 + k]? = (scells v)[k]? := by
  unfold mc
  rw [List.getElem?_append_right (by show 8 ≤ 8 + k; omega)]
  congr 1
  show 8 + k - 8 = k
  omega
theorem mc_set {v u : V} (i : Im) {k : Nat} {x : Value} (hx : (scells v).set k x = scells u) : (mc i v).set (8 + k) x = mc i u := by
  unfold mc
  rw [List.set_append_right _ _ (by show 8 ≤ 8 + k; omega), ← hx]
  congr 2
  show 8 + k - 8 = k
  omega
/-- The machine at block M, the channels, what is told. -/
structure Mw (B : Nat) (w : World) (ρ : Nat → Lab) (M : Nat) (i : Im) (S : Nat) (A : Option Addr) (n c : Nat) (Q : Nat → Nat) (C : List Tri) (v : V) (L : Nat → List Int) : Prop where
  chs : Chs B w ρ S A n c Q C L
  blk : Blk w M 91 (mc i v)
  lm : ρ M = .own 0
  ok : v.ok
  code : i.ok w
  lc : ∀ b o, i.A = some ⟨b, o, none⟩ → 0 < i.n → ρ b = .out
/-- What the program's machine may touch, itself too. -/
def Vm0 (l : Lab) : Prop := Vm l ∨ l = .own 0
theorem vm_own0 : ¬ Vm (.own 0) := by
  rintro (e | e | e | e)
  · exact e
  all_goals (injection e with e; omega)
theorem out_vm : ¬ Vm .out := by
  rintro (e | e | e | e)
  · exact e
  all_goals cases e
theorem out_vm0 : ¬ Vm0 .out := by
  rintro ((e | e | e | e) | e)
  · exact e
  all_goals cases e
section
variable {F : Lab → Prop} {B S n c M : Nat} {w w' : World} {ρ ρ' : Nat → Lab} {A : Option Addr} {Q : Nat → Nat} {C : List Tri} {L : Nat → List Int} {i : Im} {v u : V}
theorem Im.ok.carry (h : i.ok w) (hs : Stp F w ρ w' ρ') (hF : ¬ F .out) (hl : ∀ b o, i.A = some ⟨b, o, none⟩ → 0 < i.n → ρ b = .out) : i.ok w' ∧ ∀ b o, i.A = some ⟨b, o, none⟩ → 0 < i.n → ρ' b = .out :=
  ⟨⟨hs.keep.rd h.code fun hn b o hA => by rw [hl b o hA hn]; exact hF, h.byt⟩, fun b o hA hn => by
    obtain ⟨b', o', hA', hlt, _⟩ := h.code.2.2.2 hn
    rw [hA'] at hA
    injection hA with hA
    injection hA with hA
    subst hA
    rw [hs.old _ hlt]
    exact hl _ _ hA' hn⟩
end
set_option maxRecDepth 100000 in
theorem built_exp (pc tk ft : Int) (hh : Nat) (a0 a1 a2 a3 a4 a5 a6 a7 b0 b1 b2 b3 b4 b5 b6 b7 b8 b9 b10 b11 b12 b13 b14 b15 : Int) (i : Im) (S o : Nat) : Try.prog.built 129 [(0, .agg (scells ⟨pc, [a0, a1, a2, a3, a4, a5, a6, a7], hh, [b0, b1, b2, b3, b4, b5, b6, b7, b8, b9, b10, b11, b12, b13, b14, b15], tk, ft⟩).toArray), (1, .agg i.cells.toArray), (2, pv S), (3, .pointer (some ⟨o, 0, none⟩))] = some (wc ⟨pc, [a0, a1, a2, a3, a4, a5, a6, a7], hh, [b0, b1, b2, b3, b4, b5, b6, b7, b8, b9, b10, b11, b12, b13, b14, b15], tk, ft⟩ i (pv S) o false).toArray := by kernel_rfl
theorem built_work {v : V} (h : v.ok) (i : Im) (S o : Nat) : Try.prog.built 129 [(0, .agg (scells v).toArray), (1, .agg i.cells.toArray), (2, pv S), (3, .pointer (some ⟨o, 0, none⟩))] = some (wc v i (pv S) o false).toArray := by
  have h1 := h.ls
  have h2 := h.lm
  obtain ⟨pc, s, hh, m, tk, ft⟩ := v
  dsimp only at h1 h2
  match s, h1 with
  | [a0, a1, a2, a3, a4, a5, a6, a7], _ =>
    match m, h2 with
    | [b0, b1, b2, b3, b4, b5, b6, b7, b8, b9, b10, b11, b12, b13, b14, b15], _ =>
      exact built_exp pc tk ft hh a0 a1 a2 a3 a4 a5 a6 a7 b0 b1 b2 b3 b4 b5 b6 b7 b8 b9 b10 b11 b12 b13 b14 b15 i S o
theorem size_state : (Try.prog.info? 89).map (·.size) = some 28 := by kernel_rfl
theorem size_work : (Try.prog.info? 129).map (·.size) = some 39 := by kernel_rfl
theorem size_image : (Try.prog.info? 29).map (·.size) = some 8 := by kernel_rfl
end Go.Proofs.Ytliiinffkcgcaaa.VmcJ
