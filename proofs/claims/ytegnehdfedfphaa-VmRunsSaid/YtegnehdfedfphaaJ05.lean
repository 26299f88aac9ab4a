/- The table of deeds, and a deed by its number; the machine in memory. Conditions: what is worked on lies as the facts say. The machine in memory; one step. Conditions: the machine, the channels and what is told lie as the facts say. One step of the program's machine. Conditions: the machine, the channels and what is told lie as the facts say; the image is right. -/
import Derived.Test.YtegnehdfedfphaaVmcH
import Derived.Test.YtegnehdfedfphaaImgB0
import Derived.Test.YtegnehdfedfphaaJ04
import Derived.Deep.RegionHeld3
namespace Go.Proofs.Ytegnehdfedfphaa.VmcI
open Go.RowKit Go.Proofs.Ytegnehdfedfphaa.Kit Go.Proofs.Ytegnehdfedfphaa.Byt Go.Proofs.Ytegnehdfedfphaa.Mem Go.Proofs.Ytegnehdfedfphaa.VmcM Go.Proofs.Ytegnehdfedfphaa.VmcA Go.Proofs.Ytegnehdfedfphaa.VmcB Go.Proofs.Ytegnehdfedfphaa.VmcC Go.Proofs.Ytegnehdfedfphaa.VmcD Go.Proofs.Ytegnehdfedfphaa.VmcE Go.Proofs.Ytegnehdfedfphaa.VmcF Go.Proofs.Ytegnehdfedfphaa.VmcG Go.Proofs.Ytegnehdfedfphaa.VmcH Go.Proofs.Ytegnehdfedfphaa.PrtM Go.Proofs.Ytegnehdfedfphaa.PrtA Go.Proofs.Ytegnehdfedfphaa.PrtD Go.Proofs.Ytegnehdfedfphaa.PrtE
open Go.Proofs.Ytegnehdfedfphaa.ImgA (Im)
open Go.Proofs.Ytegnehdfedfphaa.ImgB (right)
open Go.Proofs.Ytegnehdfedfphaa.TabA (Tri)
open Go.Proofs.Ytegnehdfedfphaa.BitM (hb)
open Go.Proofs.Ytegnehdfedfphaa.TabE (ret_row)

/-- The function of each instruction. -/
def fnums : List FuncId := [55, 56, 57, 58, 59, 60, 61, 62, 63, 64, 65, 66, 67, 68, 69, 70, 71, 72, 73]
def fnum (o : Nat) : FuncId := fnums.getD o 0
def dcells : List Value := fnums.map fun k => .func (.func k) #[] #[]
theorem run_index_fn {P : Program} {t e : TypeId} {n k : Nat} {xs : List Value} {v : Value} {ps rs : Array TypeId} {vb : Bool} (ht : P.underlying t = some (.array n e)) (hd : P.underlying e = some (.func ps rs vb)) (hi : (P.info? e).map (·.size) = some 1) (hk : k < n) (hv : xs[k]? = some v) (w : World) :
    (Instr.index t (.agg xs.toArray) (.int .i64 (k : Int))).run P w = .ok v w := by
  cases hq : P.info? e with
  | none => simp [hq] at hi
  | some i =>
    have hs : i.size = 1 := by simpa [hq] using hi
    simp [Instr.index, run_underlying ht, asIntOf, sizeOf, typeInfo, hq, hs, hk, part, isAgg, run_underlying hd, hv]
set_option maxRecDepth 100000 in
theorem index_deed {o : Nat} (ho : o ≤ 18) (w : World) : (Instr.index 130 (.agg dcells.toArray) (.int .i64 (o : Nat))).run Try.prog w = .ok (.func (.func (fnum o)) #[] #[]) w := by
  have hv : dcells[o]? = some (.func (.func (fnum o)) #[] #[]) := by
    have hl : o < fnums.length := by show o < 19; omega
    unfold dcells fnum
    rw [List.getElem?_map, List.getD_eq_getElem?_getD, List.getElem?_eq_getElem hl]
    rfl
  exact run_index_fn Try.underlying130 Try.underlying129 (by kernel_rfl) (by omega) hv w
section
variable {B S n c b ob : Nat} {w : World} {ρ : Nat → Lab} {A : Option Addr} {Q : Nat → Nat} {C : List Tri} {i : Im} {r : R}
/-- A deed, by its number. -/
theorem deed_any (h : Wk B w ρ b i ob S A n c Q C r) (hi : right i) {o : Nat} (ho : o ≤ 18) (a : Nat) (ha : a ≤ 255) (hsn : r.sn.length ≤ 100000) :
    Calls Try.prog (fnum o) #[.pointer (some ⟨b, 0, none⟩), .int .i64 a] w (Deeds B w ρ b i ob S A n c Q C (deedR i C o a r)) := by
  obtain ⟨h1, h2, h3, ⟨h4, h5⟩, h6, h7, h8, h9, h10⟩ := hi
  have hn : i.n ≤ 1000 := by omega
  have k1 := h.ok
  have k2 := h.wb
  have key : ∀ (f : FuncId) (o : Int) (u : V), Calls Try.prog f #[.pointer (some ⟨b, 0, none⟩), .int .i64 a] w (Did b i (pv S) ob w (.tuple #[]) u r.e) → u.ok → deedR i C o a r = { r with v := u } → Calls Try.prog f #[.pointer (some ⟨b, 0, none⟩), .int .i64 a] w (Deeds B w ρ b i ob S A n c Q C (deedR i C o a r)) := fun f o u hc hu he => by
    rw [he]
    exact hc.mono fun e w' hd => h.deed hd hu
  have dk : ∀ o : Int, (deed i o a r.v).ok := fun o => k1.deed i o a
  match o, ho with
  | 0, _ => exact (yield_any k1 k2 a).mono fun e w' hd => h.deed hd k1
  | 1, _ => exact key _ 1 _ (lay_any k1 k2 a) (dk 1) (by simp [deedR, deed])
  | 2, _ => exact key _ 2 _ (drop_any k1 k2 a) (dk 2) (by simp [deedR, deed])
  | 3, _ => exact key _ 3 _ (dup_any k1 k2 a) (dk 3) (by simp [deedR, deed])
  | 4, _ => exact key _ 4 _ (swap_any k1 k2 a) (dk 4) (by simp [deedR, deed])
  | 5, _ => exact key _ 5 _ (add_any k1 k2 a) (dk 5) (by simp [deedR, deed])
  | 6, _ => exact key _ 6 _ (sub_any k1 k2 a) (dk 6) (by simp [deedR, deed])
  | 7, _ => exact key _ 7 _ (mul_any k1 k2 a) (dk 7) (by simp [deedR, deed])
  | 8, _ => exact key _ 8 _ (less_any k1 k2 a) (dk 8) (by simp [deedR, deed])
  | 9, _ => exact key _ 9 _ (same_any k1 k2 a) (dk 9) (by simp [deedR, deed])
  | 10, _ => exact key _ 10 _ (load_any k1 k2 h5 a) (dk 10) (by simp [deedR, deed])
  | 11, _ => exact key _ 11 _ (store_any k1 k2 h5 a) (dk 11) (by simp [deedR, deed])
  | 12, _ => exact key _ 12 _ (jump_any k1 k2 hn a) (dk 12) (by simp [deedR, deed])
  | 13, _ => exact key _ 13 _ (zero_any k1 k2 hn a) (dk 13) (by simp [deedR, deed])
  | 14, _ => exact send_any h a ha h7 hsn
  | 15, _ => exact get_any h a ha h8
  | 16, _ => exact confirm_any h a
  | 17, _ => exact key _ 17 _ (halt_any k1 k2 a) (dk 17) (by simp [deedR, deed])
  | 18, _ => exact key _ 18 _ (now_any k1 k2 a) (dk 18) (by simp [deedR, deed])
  | o + 19, h => exact absurd h (by omega)
end
theorem size_deeds : (Try.prog.info? 130).map (·.size) = some dcells.length := by kernel_rfl
theorem dcells_one : ∀ u ∈ dcells, u.oneCell' = true := by
  intro u hu
  unfold dcells at hu
  rw [List.mem_map] at hu
  obtain ⟨k, _, rfl⟩ := hu
  rfl
set_option maxRecDepth 100000 in
theorem deeds_any (w : World) : Calls Try.prog 44 #[] w fun e w' => e = .returned (.agg dcells.toArray) ∧ Below w.heap.size w w' := by
  go_enter Try.func44, Try.ntmps44
  go_wp2_with (refine wpList_store_blk rfl 130 (.tmp 0) (.tmp 1) rfl w.heap.size rfl dcells rfl (Blk.new w 130 (List.replicate 19 .nilFunc)) rfl size_deeds dcells_one ?_; intro w1 hB1 ho1)
  exact ret_row Try.results44 rfl rfl hB1.out Try.underlying130 rfl (by simpa using size_deeds) ⟨rfl, ho1.out.below ((Below.refl _ _).alloc (Nat.le_refl _) _) (Nat.le_refl _) (by simp)⟩
end Go.Proofs.Ytegnehdfedfphaa.VmcI
namespace Go.Proofs.Ytegnehdfedfphaa.VmcJ
open Go.RowKit Go.Proofs.Ytegnehdfedfphaa.Kit Go.Proofs.Ytegnehdfedfphaa.Byt Go.Proofs.Ytegnehdfedfphaa.Mem Go.Proofs.Ytegnehdfedfphaa.OpsM Go.Proofs.Ytegnehdfedfphaa.OpsA Go.Proofs.Ytegnehdfedfphaa.VmcM Go.Proofs.Ytegnehdfedfphaa.VmcA Go.Proofs.Ytegnehdfedfphaa.VmcB Go.Proofs.Ytegnehdfedfphaa.VmcC Go.Proofs.Ytegnehdfedfphaa.VmcD Go.Proofs.Ytegnehdfedfphaa.VmcE Go.Proofs.Ytegnehdfedfphaa.VmcF Go.Proofs.Ytegnehdfedfphaa.VmcG Go.Proofs.Ytegnehdfedfphaa.VmcH Go.Proofs.Ytegnehdfedfphaa.VmcI Go.Proofs.Ytegnehdfedfphaa.PrtM Go.Proofs.Ytegnehdfedfphaa.PrtA Go.Proofs.Ytegnehdfedfphaa.PrtD Go.Proofs.Ytegnehdfedfphaa.PrtE
open Go.Proofs.Ytegnehdfedfphaa.ImgA (Im)
open Go.Proofs.Ytegnehdfedfphaa.ImgB (right)
open Go.Proofs.Ytegnehdfedfphaa.TabA (Tri)
open Go.Proofs.Ytegnehdfedfphaa.BitA (i64s)
open Go.Proofs.Ytegnehdfedfphaa.BitM (hb)

def mc (i : Im) (v : V) : List Value := i.cells ++ scells v
theorem mc_len {v : V} (h : v.ok) (i : Im) : (mc i v).length = 36 := by
  unfold mc
  rw [List.length_append, sc_len h]
  rfl
theorem mc_st (i : Im) (v : V) (k : Nat) : (mc i v)[8 + k]? = (scells v)[k]? := by
  unfold mc
  rw [List.getElem?_append_right (by show 8 ≤ 8 + k; omega)]
  congr 1
  show 8 + k - 8 = k
  omega
theorem mc_set {v u : V} (i : Im) {k : Nat} {x : Value} (hx : (scells v).set k x = scells u) : (mc i v).set (8 + k) x = mc i u := by
  unfold mc
  rw [List.set_append_right _ _ (by show 8 ≤ 8 + k; omega), ← hx]
  congr 2
  show 8 + k - 8 = k
  omega
/-- The machine at block M, the channels, what is told. -/
structure Mw (B : Nat) (w : World) (ρ : Nat → Lab) (M : Nat) (i : Im) (S : Nat) (A : Option Addr) (n c : Nat) (Q : Nat → Nat) (C : List Tri) (v : V) (L : Nat → List Int) : Prop where
  chs : Chs B w ρ S A n c Q C L
  blk : Blk w M 90 (mc i v)
  lm : ρ M = .own 0
  ok : v.ok
  code : i.ok w
  lc : ∀ b o, i.A = some ⟨b, o, none⟩ → 0 < i.n → ρ b = .out
/-- What the program's machine may touch, itself too. -/
def Vm0 (l : Lab) : Prop := Vm l ∨ l = .own 0
theorem vm_own0 : ¬ Vm (.own 0) := by
  rintro (e | e | e | e)
  · exact e
  all_goals (injection e with e; omega)
theorem out_vm : ¬ Vm .out := by
  rintro (e | e | e | e)
  · exact e
  all_goals cases e
theorem out_vm0 : ¬ Vm0 .out := by
  rintro ((e | e | e | e) | e)
  · exact e
  all_goals cases e
section
variable {F : Lab → Prop} {B S n c M : Nat} {w w' : World} {ρ ρ' : Nat → Lab} {A : Option Addr} {Q : Nat → Nat} {C : List Tri} {L : Nat → List Int} {i : Im} {v u : V}
theorem Im.ok.carry (h : i.ok w) (hs : Stp F w ρ w' ρ') (hF : ¬ F .out) (hl : ∀ b o, i.A = some ⟨b, o, none⟩ → 0 < i.n → ρ b = .out) : i.ok w' ∧ ∀ b o, i.A = some ⟨b, o, none⟩ → 0 < i.n → ρ' b = .out :=
  ⟨⟨hs.keep.rd h.code fun hn b o hA => by rw [hl b o hA hn]; exact hF, h.byt⟩, fun b o hA hn => by
    obtain ⟨b', o', hA', hlt, _⟩ := h.code.2.2.2 hn
    rw [hA'] at hA
    injection hA with hA
    injection hA with hA
    subst hA
    rw [hs.old _ hlt]
    exact hl _ _ hA' hn⟩
end
set_option maxRecDepth 100000 in
theorem built_exp (pc tk ft : Int) (hh : Nat) (a0 a1 a2 a3 a4 a5 a6 a7 b0 b1 b2 b3 b4 b5 b6 b7 b8 b9 b10 b11 b12 b13 b14 b15 : Int) (i : Im) (S o : Nat) : Try.prog.built 128 [(0, .agg (scells ⟨pc, [a0, a1, a2, a3, a4, a5, a6, a7], hh, [b0, b1, b2, b3, b4, b5, b6, b7, b8, b9, b10, b11, b12, b13, b14, b15], tk, ft⟩).toArray), (1, .agg i.cells.toArray), (2, pv S), (3, .pointer (some ⟨o, 0, none⟩))] = some (wc ⟨pc, [a0, a1, a2, a3, a4, a5, a6, a7], hh, [b0, b1, b2, b3, b4, b5, b6, b7, b8, b9, b10, b11, b12, b13, b14, b15], tk, ft⟩ i (pv S) o false).toArray := by kernel_rfl
theorem built_work {v : V} (h : v.ok) (i : Im) (S o : Nat) : Try.prog.built 128 [(0, .agg (scells v).toArray), (1, .agg i.cells.toArray), (2, pv S), (3, .pointer (some ⟨o, 0, none⟩))] = some (wc v i (pv S) o false).toArray := by
  have h1 := h.ls
  have h2 := h.lm
  obtain ⟨pc, s, hh, m, tk, ft⟩ := v
  dsimp only at h1 h2
  match s, h1 with
  | [a0, a1, a2, a3, a4, a5, a6, a7], _ =>
    match m, h2 with
    | [b0, b1, b2, b3, b4, b5, b6, b7, b8, b9, b10, b11, b12, b13, b14, b15], _ =>
      exact built_exp pc tk ft hh a0 a1 a2 a3 a4 a5 a6 a7 b0 b1 b2 b3 b4 b5 b6 b7 b8 b9 b10 b11 b12 b13 b14 b15 i S o
theorem size_state : (Try.prog.info? 88).map (·.size) = some 28 := by kernel_rfl
theorem size_work : (Try.prog.info? 128).map (·.size) = some 39 := by kernel_rfl
theorem size_image : (Try.prog.info? 29).map (·.size) = some 8 := by kernel_rfl
end Go.Proofs.Ytegnehdfedfphaa.VmcJ
namespace Go.Proofs.Ytegnehdfedfphaa.VmcK
open Go.RowKit Go.Proofs.Ytegnehdfedfphaa.Kit Go.Proofs.Ytegnehdfedfphaa.Byt Go.Proofs.Ytegnehdfedfphaa.Mem Go.Proofs.Ytegnehdfedfphaa.OpsM Go.Proofs.Ytegnehdfedfphaa.OpsA Go.Proofs.Ytegnehdfedfphaa.VmcM Go.Proofs.Ytegnehdfedfphaa.VmcA Go.Proofs.Ytegnehdfedfphaa.VmcB Go.Proofs.Ytegnehdfedfphaa.VmcC Go.Proofs.Ytegnehdfedfphaa.VmcD Go.Proofs.Ytegnehdfedfphaa.VmcE Go.Proofs.Ytegnehdfedfphaa.VmcF Go.Proofs.Ytegnehdfedfphaa.VmcG Go.Proofs.Ytegnehdfedfphaa.VmcH Go.Proofs.Ytegnehdfedfphaa.VmcI Go.Proofs.Ytegnehdfedfphaa.VmcJ Go.Proofs.Ytegnehdfedfphaa.PrtM Go.Proofs.Ytegnehdfedfphaa.PrtA Go.Proofs.Ytegnehdfedfphaa.PrtD Go.Proofs.Ytegnehdfedfphaa.PrtE
open Go.Proofs.Ytegnehdfedfphaa.ImgA (Im)
open Go.Proofs.Ytegnehdfedfphaa.ImgB (right)
open Go.Proofs.Ytegnehdfedfphaa.TabA (Tri)
open Go.Proofs.Ytegnehdfedfphaa.BitA (i64s)
open Go.Proofs.Ytegnehdfedfphaa.BitM (hb)

section
variable {B S n c M ob n1 c1 : Nat} {w W w' : World} {ρ ρ' : Nat → Lab} {A A1 : Option Addr} {Q : Nat → Nat} {C : List Tri} {L : Nat → List Int} {i : Im} {v u : V} {sn : List (Int × Int)} {cf : Bool}
theorem Mw.go {L' : Nat → List Int} (h : Mw B w ρ M i S A n c Q C v L) (hc : Chs B w' ρ' S A n c Q C L') (hs : Stp Vm0 w ρ w' ρ') (hb : Blk w' M 90 (mc i u)) (hu : u.ok) (_hn : 0 < i.n) : Mw B w' ρ' M i S A n c Q C u L' := by
  obtain ⟨k1, k2⟩ := Im.ok.carry h.code hs out_vm0 h.lc
  exact ⟨hc, hb, by rw [hs.old M h.blk.lt]; exact h.lm, hu, k1, k2⟩
/-- A cell of the machine's state is written, behind what only made memory. -/
theorem Mw.put (h : Mw B w ρ M i S A n c Q C v L) (ho : Ob B w ρ ob A1 n1 c1 sn cf) (hn : 0 < i.n) (hb : Below w.heap.size w W) {k : Nat} {x : Value} (hx : (scells v).set k x = scells u) (hu : u.ok) :
    Mw B (W.setCell ⟨M, 8 + k, none⟩ x) ρ M i S A n c Q C u L ∧ Ob B (W.setCell ⟨M, 8 + k, none⟩ x) ρ ob A1 n1 c1 sn cf ∧ Stp Vm0 w ρ (W.setCell ⟨M, 8 + k, none⟩ x) ρ := by
  have hs : Stp (fun l => l = .own 0) w ρ (W.setCell ⟨M, 8 + k, none⟩ x) ρ := stp_set h.chs.bd ((Keep.of_below (F := fun k => ρ k = .own 0) hb).trans (Keep.set (F := fun j => j = M) W (8 + k) x rfl) fun j hj => .inl (hj ▸ h.lm))
  have hs0 : Stp Vm0 w ρ (W.setCell ⟨M, 8 + k, none⟩ x) ρ := hs.mono fun l hl => .inr hl
  have hB := Blk.set (h.blk.below hb) (8 + k) x
  rw [mc_set i hx] at hB
  exact ⟨Mw.go h (h.chs.carry hs (fun e => by cases e) (fun e => by cases e) (fun k e => by cases e) (fun k e => by cases e)) hs0 hB hu hn, ho.carry hs (fun e => by injection e with e; omega) (fun e => by injection e with e; omega), hs0⟩
end
/-- What a step leaves. -/
def Steps' (B : Nat) (w : World) (ρ : Nat → Lab) (M : Nat) (i : Im) (ob S : Nat) (A : Option Addr) (n c : Nat) (Q : Nat → Nat) (C : List Tri) (r : R) (e : Ending) (w' : World) : Prop :=
  e = .returned (.bool r.e) ∧ ∃ ρ' A2 n2 c2, Mw B w' ρ' M i S A n c Q C r.v r.L ∧ Ob B w' ρ' ob A2 n2 c2 r.sn r.cf ∧ Stp Vm0 w ρ w' ρ'
section
variable {B S n c M ob n1 c1 : Nat} {w : World} {ρ : Nat → Lab} {A A1 : Option Addr} {Q : Nat → Nat} {C : List Tri} {L : Nat → List Int} {i : Im} {v : V} {sn : List (Int × Int)} {cf : Bool}
set_option maxRecDepth 100000 in
set_option maxHeartbeats 3200000 in
theorem step_none (h : Mw B w ρ M i S A n c Q C v L) (ho : Ob B w ρ ob A1 n1 c1 sn cf) (hn : 0 < i.n) (hp : n64 v.pc) (hat : atI i.xs v.pc = none) :
    Calls Try.prog 29 #[.pointer (some ⟨M, 0, none⟩), pv S, .pointer (some ⟨ob, 0, none⟩)] w (Steps' B w ρ M i ob S A n c Q C ⟨{ v with ft := 19 }, L, sn, cf, true⟩) := by
  have m7 : w.cell? ⟨M, 7, none⟩ = some (.slice i.A i.n i.c) := h.blk.cell (i := 7) rfl
  have m8 : w.cell? ⟨M, 8, none⟩ = some (.int .i64 v.pc) := h.blk.cell (i := 8) ((mc_st i v 0).trans (sc_pc v))
  have hMl : M < w.heap.size := h.blk.lt
  have hne1 : ¬ M = w.heap.size := by omega
  have hne2 : ¬ w.heap.size = M := by omega
  have HAT := Lib.hid (fun w' (hb : Below w.heap.size w w') => OpsN.at_any i.A i.n i.c i.xs v.pc w' (h.code.below hb).code h.code.byt hp)
  rw [hat] at HAT
  obtain ⟨p, hp0⟩ : ∃ p, p = v.pc := ⟨_, rfl⟩
  obtain ⟨Ai, hAi⟩ : ∃ Ai, Ai = i.A := ⟨_, rfl⟩
  obtain ⟨ni, hni⟩ : ∃ ni, ni = i.n := ⟨_, rfl⟩
  obtain ⟨ci, hci⟩ : ∃ ci, ci = i.c := ⟨_, rfl⟩
  rw [← hAi, ← hni, ← hci] at m7 HAT
  rw [← hp0] at m8 HAT
  have H := Lib.hid h
  have HO := Lib.hid ho
  have hba := Lib.hid (below_ad w (.cells #[.int .i64 0, .int .i64 0] 106))
  have hbd := Lib.hid (show Below w.heap.size w w.drew from ⟨rfl, rfl, rfl, Nat.le_refl _, fun _ _ => rfl⟩)
  have HN := Lib.hid hn
  clear h ho hn hat hp hp0 hAi hni hci
  go_enter Try.func29, Try.ntmps29
  go_wp2_with fail
  go_region_held3 (fun w' => w'.cell? ⟨M, 7, none⟩ = some (.slice Ai ni ci) ∧ w'.cell? ⟨M, 8, none⟩ = some (.int .i64 p))
    (first | go_keep | exact HSe.out | exact ⟨(World.cell?_setCell_far _ _ _ _ hne2).trans ((World.cell?_setCell_far _ _ _ _ hne2).trans HSe.out.1), (World.cell?_setCell_far _ _ _ _ hne2).trans ((World.cell?_setCell_far _ _ _ _ hne2).trans HSe.out.2)⟩ | exact ⟨(World.cell?_setCell_far _ _ _ _ hne1).trans ((World.cell?_setCell_far _ _ _ _ hne1).trans HSe.out.1), (World.cell?_setCell_far _ _ _ _ hne1).trans ((World.cell?_setCell_far _ _ _ _ hne1).trans HSe.out.2)⟩)
    (first
      | (go_at_call 43; refine (HAT.out _ hbd.out).mono ?_; rintro e w2 ⟨rfl, hb2⟩; have HB2 := Lib.hid (hbd.out.trans hb2); have hM2 : M < w2.heap.size := Nat.lt_of_lt_of_le hMl HB2.out.size; have hne3 : ¬ M = w2.heap.size := Nat.ne_of_lt hM2; have hne4 : ¬ w2.heap.size = M := fun e => hne3 e.symm; have HSe := Lib.hid (show w2.cell? ⟨M, 7, none⟩ = some (.slice Ai ni ci) ∧ w2.cell? ⟨M, 8, none⟩ = some (.int .i64 p) from ⟨(HB2.out.cell (p := ⟨M, 7, none⟩) hMl).trans m7, (HB2.out.cell (p := ⟨M, 8, none⟩) hMl).trans m8⟩); clear hb2)
      | (go_at_call 43; refine (HAT.out _ hba.out).mono ?_; rintro e w2 ⟨rfl, hb2⟩; have HB2 := Lib.hid (hba.out.trans (hb2.mono hba.out.size)); have HSe := Lib.hid (show w2.cell? ⟨M, 7, none⟩ = some (.slice Ai ni ci) ∧ w2.cell? ⟨M, 8, none⟩ = some (.int .i64 p) from ⟨(HB2.out.cell (p := ⟨M, 7, none⟩) hMl).trans m7, (HB2.out.cell (p := ⟨M, 8, none⟩) hMl).trans m8⟩); have hbx := (show Blk (w.alloc (.cells #[.int .i64 0, .int .i64 0] 106)).drew w.heap.size 106 [.int .i64 0, .int .i64 0] from Blk.new w _ _).below hb2; have x0 := hbx.cell (i := 0) rfl; have x1 := hbx.cell (i := 1) rfl; have y0 := hbx.frozen 0; have y1 := hbx.frozen 1; clear hbx hb2))
  focus
    have HB3 := Lib.hid (show Below w.heap.size w (w2.alloc (.cells #[.int .i64 0, .int .i64 0] 106)) from HB2.out.alloc HB2.out.size _)
    clear hM2 hne3 hne4
  rotate_left 1
  focus
    have HB3 := Lib.hid (show Below w.heap.size w ((w2.setCell ⟨w.heap.size, 0, none⟩ (.int .i64 0)).setCell ⟨w.heap.size, 1, none⟩ (.int .i64 0)) from (HB2.out.setCell (Nat.le_refl _) _).setCell (Nat.le_refl _) _)
    clear x0 x1 y0 y1
  all_goals
    have hM3 := H.out.blk.below HB3.out
    have c35 := hM3.cell (i := 35) ((mc_st i v 27).trans (sc_ft H.out.ok))
    have z35 := hM3.frozen 35
    clear hM3 m7 m8
    go_wp2
    go_ret
    obtain ⟨k1, k2, k3⟩ := Mw.put H.out HO.out HN.out HB3.out (set_ft H.out.ok 19) (H.out.ok.ft 19)
    exact ⟨rfl, ρ, A1, n1, c1, k1, k2, k3⟩
end
end Go.Proofs.Ytegnehdfedfphaa.VmcK
