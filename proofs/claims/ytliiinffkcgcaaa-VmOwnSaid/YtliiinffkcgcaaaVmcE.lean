/- The ports, as a machine asks them: sends, gets, and what is deferred there. Conditions: the channels and what is worked on lie as the facts say. -/
import Derived.Test.YtliiinffkcgcaaaVmcD
import Derived.Test.YtliiinffkcgcaaaPrtE
import Derived.Defers
import Derived.Recover
namespace Go.Proofs.Ytliiinffkcgcaaa.VmcE
open Go.RowKit Go.Proofs.Ytliiinffkcgcaaa.Kit Go.Proofs.Ytliiinffkcgcaaa.Byt Go.Proofs.Ytliiinffkcgcaaa.Mem Go.Proofs.Ytliiinffkcgcaaa.VmcM Go.Proofs.Ytliiinffkcgcaaa.VmcA Go.Proofs.Ytliiinffkcgcaaa.VmcB Go.Proofs.Ytliiinffkcgcaaa.PrtM Go.Proofs.Ytliiinffkcgcaaa.PrtA Go.Proofs.Ytliiinffkcgcaaa.PrtD Go.Proofs.Ytliiinffkcgcaaa.PrtE
open Go.Proofs.Ytliiinffkcgcaaa.ImgA (Im)
open Go.Proofs.Ytliiinffkcgcaaa.TabA (Tri)
open Go.Proofs.Ytliiinffkcgcaaa.BitM (hb)

section
variable {F : Lab → Prop} {B S n c : Nat} {w w1 w2 : World} {ρ ρ1 : Nat → Lab} {A : Option Addr} {Q : Nat → Nat} {C : List Tri} {L : Nat → List Int}
/-- Behind it only what is new has changed. -/
theorem Stp.fresh (h : Stp F w ρ w1 ρ1) (k : Keep (fun i => w.heap.size ≤ i) w1 w2) : Stp F w ρ w2 ρ1 :=
  ⟨h.keep.trans k fun _ hk => .inr hk, h.old, fun i hi => (h.new i hi).imp id fun h2 => ⟨h2.1, by have := k.size; omega⟩⟩
/-- Only blocks without a label have changed. -/
theorem Chs.others (h : Chs B w1 ρ S A n c Q C L) (k : Keep (fun i => ρ i = .out) w1 w2) : Chs B w2 ρ S A n c Q C L :=
  h.carry (F := fun l => l = .out) ⟨k, fun _ _ => rfl, fun i hi => .inl (Classical.byContradiction fun hn => by have := (h.bd i hn).2; omega)⟩ (fun e => by cases e) (fun e => by cases e) (fun k e => by cases e) (fun k e => by cases e)
theorem Chs.newOut (h : Chs B w ρ S A n c Q C L) {i : Nat} (hi : w.heap.size ≤ i) : ρ i = .out := Classical.byContradiction fun hn => by have := (h.bd i hn).2; omega
end

theorem below_ad (w : World) (o : Obj) : Below w.heap.size w (w.alloc o).drew := by
  have h := (Below.refl w.heap.size w).alloc (Nat.le_refl _) o
  exact ⟨h.os, h.tape, h.output, h.size, h.block⟩
/-- The channels as ports. -/
def pv (S : Nat) : Value := .iface 40 (.pointer (some ⟨S, 0, none⟩))
set_option maxRecDepth 100000 in
theorem meth_Send (m S : Nat) (w : World) : (method (m + 1) 40 (.pointer (some ⟨S, 0, none⟩)) "Send").run Try.prog w = .ok (19, .pointer (some ⟨S, 0, none⟩)) w := by
  kernel_rfl
set_option maxRecDepth 100000 in
theorem meth_Get (m S : Nat) (w : World) : (method (m + 1) 40 (.pointer (some ⟨S, 0, none⟩)) "Get").run Try.prog w = .ok (103, .pointer (some ⟨S, 0, none⟩)) w := by
  kernel_rfl
set_option maxRecDepth 100000 in
theorem idle_s (p : Addr) (w : World) : CallsD Try.prog 84 #[.pointer (some p)] .returning w fun e u' w' => e = .returned (.tuple #[]) ∧ u' = .returning ∧ w' = w := by
  refine callsD_of_wpS Try.func84 rfl fun c₀ cs hu => ?_
  apply wpS_seq
  apply wpS_region
  simp [wpOpsS, go_sem, recoverD, hu, Try.ntmps84, Exit.thenS]
  refine wpS_cond (t := false) (by simp [Act.eval, Array.replicate]) ?_
  simp only [Bool.false_eq_true, if_false]
  refine wpS_of_wp (wp_skip ?_)
  cases c₀
  simp_all [bodyPostS, results, Try.results84]
set_option maxRecDepth 100000 in
theorem idle_g (p : Addr) (w : World) : CallsD Try.prog 85 #[.pointer (some p)] .returning w fun e u' w' => e = .returned (.tuple #[]) ∧ u' = .returning ∧ w' = w := by
  refine callsD_of_wpS Try.func85 rfl fun c₀ cs hu => ?_
  apply wpS_seq
  apply wpS_region
  simp [wpOpsS, go_sem, recoverD, hu, Try.ntmps85, Exit.thenS]
  refine wpS_cond (t := false) (by simp [Act.eval, Array.replicate]) ?_
  simp only [Bool.false_eq_true, if_false]
  refine wpS_of_wp (wp_skip ?_)
  cases c₀
  simp_all [bodyPostS, results, Try.results85]
/-- Behind a call of the ports, and two stores into the box of what is answered. -/
theorem lft_box {B S n c : Nat} {w wa w2 : World} {ρ ρ2 : Nat → Lab} {A : Option Addr} {Q : Nat → Nat} {C : List Tri} {L2 : Nat → List Int} {v : Value} (hbd : Bd B w ρ) (hbw : Below w.heap.size w wa) (hlt : w.heap.size < wa.heap.size) (hlw : ρ w.heap.size = .out)
    (h2 : Chs B w2 ρ2 S A n c Q C L2) (s2 : Stp Prog wa.drew ρ w2 ρ2) {w3 : World} (k1 : ∀ (F : Nat → Prop), F w.heap.size → Keep F w2 w3) : Lft B w ρ S A n c Q C L2 v (.returned v) w3 := by
  have hd : Below w.heap.size w wa.drew := ⟨hbw.os, hbw.tape, hbw.output, hbw.size, hbw.block⟩
  have h0 : ρ2 w.heap.size = .out := (s2.old _ hlt).trans hlw
  exact ⟨rfl, ρ2, Chs.others h2 (k1 _ h0), Stp.fresh ((Stp.of_below hbd hd).trans s2) (k1 _ (Nat.le_refl _))⟩
section
variable {v : V} {i : Im} {o b : Nat} {e : Bool} {B S n c : Nat} {w : World} {ρ : Nat → Lab} {A : Option Addr} {Q : Nat → Nat} {C : List Tri} {L : Nat → List Int}
set_option maxRecDepth 100000 in
theorem sends_any (hC : Chs B w ρ S A n c Q C L) (h : v.ok) (hB : Wb w b v i (pv S) o e) (hlb : ¬ Prog (ρ b)) (k y : Int) :
    Calls Try.prog 82 #[.pointer (some ⟨b, 0, none⟩), .int .i64 k, .int .i64 y] w (Lft B w ρ S A n c Q C (snds C L i.p k y).2 (.int .i64 (snds C L i.p k y).1.2)) := by
  have c28 : w.cell? ⟨b, 28, none⟩ = some (.int .i64 i.p) := hB.tail h (k := 0) rfl
  have c36 : w.cell? ⟨b, 36, none⟩ = some (.iface 40 (.pointer (some ⟨S, 0, none⟩))) := hB.tail h (k := 8) rfl
  obtain ⟨p, hp⟩ : ∃ p, p = i.p := ⟨_, rfl⟩
  rw [← hp] at c28 ⊢
  have hbl : b < w.heap.size := Blk.lt hB
  have HNE := Lib.hid (show ∀ j, (⟨w.heap.size, 0, none⟩ : Addr) ≠ ⟨b, j, none⟩ from fun j hh => by injection hh with hh; omega)
  obtain ⟨wa, hwa⟩ : ∃ wa, wa = w.alloc (.cells #[.int .i64 0] 34) := ⟨_, rfl⟩
  have hBa : Wb wa b v i (pv S) o e := by rw [hwa]; exact Blk.alloc hB _
  have c28a : wa.cell? ⟨b, 28, none⟩ = some (.int .i64 i.p) := hBa.tail h (k := 0) rfl
  have c36a : wa.cell? ⟨b, 36, none⟩ = some (.iface 40 (.pointer (some ⟨S, 0, none⟩))) := hBa.tail h (k := 8) rfl
  have HBE : Hid (Blk wa w.heap.size 34 [.int .i64 0]) := Lib.hid (by rw [hwa]; exact Blk.new w _ _)
  have HBW : Hid (Below w.heap.size w wa) := Lib.hid (by rw [hwa]; exact (Below.refl _ _).alloc (Nat.le_refl _) _)
  rw [← hp] at c28a
  have hs := send_any (hC.below (w' := wa.drew) (by rw [hwa]; exact below_ad w _)) p k y
  obtain ⟨r, hr⟩ : ∃ r, r = snds C L p k y := ⟨_, rfl⟩
  rw [← hr] at hs ⊢
  obtain ⟨⟨rb, re⟩, L2⟩ := r
  dsimp only at hs ⊢
  have HS := Lib.hid hs
  have HC := Lib.hid hC
  have hm := fun (m : Nat) (w : World) => meth_Send m S w
  have hmf : ∀ (fn : Fn) (first cap : Array Value) (w : World), (Instr.makeFunc fn first cap).run Try.prog w = .ok (.func fn first cap) w := fun _ _ _ _ => rfl
  have HBD := Lib.hid hC.bd
  have HLW := Lib.hid (Chs.newOut hC (Nat.le_refl w.heap.size))
  have HCL := Lib.hid (show ∀ w2 ρ2, Stp Prog wa.drew ρ w2 ρ2 → w2.cell? ⟨b, 28, none⟩ = some (.int .i64 p) ∧ w2.cell? ⟨b, 36, none⟩ = some (.iface 40 (.pointer (some ⟨S, 0, none⟩))) from fun w2 ρ2 s2 => by
    have hb2 : Wb w2 b v i (pv S) o e := s2.keep.blk (show Blk wa.drew b _ _ from hBa) hlb
    exact ⟨by rw [hp]; exact hb2.tail h (k := 0) rfl, hb2.tail h (k := 8) rfl⟩)
  clear hB h hs hr hC hp hBa c28 c36 hlb
  go_enter_defers Try.func82, Try.ntmps82
  go_wp2_with fail
  rw [← hwa]
  clear hwa
  go_region_held3 (fun w' => w'.cell? ⟨b, 28, none⟩ = some (.int .i64 p) ∧ w'.cell? ⟨b, 36, none⟩ = some (.iface 40 (.pointer (some ⟨S, 0, none⟩))))
    (first | go_keep | exact HSe.out | exact ⟨(World.cell?_setCell_other _ _ _ _ (HNE.out 28)).trans HSe.out.1, (World.cell?_setCell_other _ _ _ _ (HNE.out 36)).trans HSe.out.2⟩)
    (first | (go_at_call 19; refine HS.out.mono ?_; rintro en w2 ⟨rfl, ρ2, h2, s2⟩; have H2 := Lib.hid h2; have S2 := Lib.hid s2; have hb2 := s2.keep.blk (show Blk wa.drew _ _ _ from HBE.out) (by rw [HLW.out]; exact id); have HSe := Lib.hid (HCL.out _ _ s2); have HX2 := Lib.hid hb2; have e0 := hb2.cell (i := 0) rfl; have f0 := hb2.frozen 0; clear h2 s2 hb2))
  go_wp2
  refine leaves_cons (f := 84) (args := #[.pointer (some ⟨w.heap.size, 0, none⟩)]) (by simp) (by simp [go_sem]) ?_
  refine (idle_s ⟨w.heap.size, 0, none⟩ _).mono ?_
  rintro e u' w'' ⟨rfl, rfl, rfl⟩
  simp [Leaves, settle, results, Try.results82, go_sem]
  have e1 := ((HX2.out.set 0 (.int .i64 re)).set 0 (.int .i64 re)).cell (i := 0) (v := .int .i64 re) rfl
  simp only [e1]
  exact ⟨_, rfl, lft_box HBD.out HBW.out HBE.out.lt HLW.out H2.out S2.out (fun F hF => (Keep.set w2 0 _ hF).trans (Keep.set _ 0 _ hF) fun _ h => .inl h)⟩
set_option maxRecDepth 100000 in
theorem gets_any (hC : Chs B w ρ S A n c Q C L) (h : v.ok) (hB : Wb w b v i (pv S) o e) (hlb : ¬ Prog (ρ b)) (k : Int) :
    Calls Try.prog 83 #[.pointer (some ⟨b, 0, none⟩), .int .i64 k] w (Lft B w ρ S A n c Q C (gets C L i.p k).2 (.tuple #[.int .i64 (gets C L i.p k).1.1, .bool (gets C L i.p k).1.2.1, .int .i64 (gets C L i.p k).1.2.2])) := by
  have c28 : w.cell? ⟨b, 28, none⟩ = some (.int .i64 i.p) := hB.tail h (k := 0) rfl
  have c36 : w.cell? ⟨b, 36, none⟩ = some (.iface 40 (.pointer (some ⟨S, 0, none⟩))) := hB.tail h (k := 8) rfl
  obtain ⟨p, hp⟩ : ∃ p, p = i.p := ⟨_, rfl⟩
  rw [← hp] at c28 ⊢
  have hbl : b < w.heap.size := Blk.lt hB
  have HNE := Lib.hid (show ∀ j, (⟨w.heap.size, 0, none⟩ : Addr) ≠ ⟨b, j, none⟩ from fun j hh => by injection hh with hh; omega)
  obtain ⟨wa, hwa⟩ : ∃ wa, wa = w.alloc (.cells #[.int .i64 0] 34) := ⟨_, rfl⟩
  have hBa : Wb wa b v i (pv S) o e := by rw [hwa]; exact Blk.alloc hB _
  have c28a : wa.cell? ⟨b, 28, none⟩ = some (.int .i64 i.p) := hBa.tail h (k := 0) rfl
  have c36a : wa.cell? ⟨b, 36, none⟩ = some (.iface 40 (.pointer (some ⟨S, 0, none⟩))) := hBa.tail h (k := 8) rfl
  have HBE : Hid (Blk wa w.heap.size 34 [.int .i64 0]) := Lib.hid (by rw [hwa]; exact Blk.new w _ _)
  have HBW : Hid (Below w.heap.size w wa) := Lib.hid (by rw [hwa]; exact (Below.refl _ _).alloc (Nat.le_refl _) _)
  rw [← hp] at c28a
  have hs := get_any (hC.below (w' := wa.drew) (by rw [hwa]; exact below_ad w _)) p k
  obtain ⟨r, hr⟩ : ∃ r, r = gets C L p k := ⟨_, rfl⟩
  rw [← hr] at hs ⊢
  obtain ⟨⟨rn, rb, re⟩, L2⟩ := r
  dsimp only at hs ⊢
  have HS := Lib.hid hs
  have HC := Lib.hid hC
  have hm := fun (m : Nat) (w : World) => meth_Get m S w
  have hmf : ∀ (fn : Fn) (first cap : Array Value) (w : World), (Instr.makeFunc fn first cap).run Try.prog w = .ok (.func fn first cap) w := fun _ _ _ _ => rfl
  have HBD := Lib.hid hC.bd
  have HLW := Lib.hid (Chs.newOut hC (Nat.le_refl w.heap.size))
  have HCL := Lib.hid (show ∀ w2 ρ2, Stp Prog wa.drew ρ w2 ρ2 → w2.cell? ⟨b, 28, none⟩ = some (.int .i64 p) ∧ w2.cell? ⟨b, 36, none⟩ = some (.iface 40 (.pointer (some ⟨S, 0, none⟩))) from fun w2 ρ2 s2 => by
    have hb2 : Wb w2 b v i (pv S) o e := s2.keep.blk (show Blk wa.drew b _ _ from hBa) hlb
    exact ⟨by rw [hp]; exact hb2.tail h (k := 0) rfl, hb2.tail h (k := 8) rfl⟩)
  clear hB h hs hr hC hp hBa c28 c36 hlb
  go_enter_defers Try.func83, Try.ntmps83
  go_wp2_with fail
  rw [← hwa]
  clear hwa
  go_region_held3 (fun w' => w'.cell? ⟨b, 28, none⟩ = some (.int .i64 p) ∧ w'.cell? ⟨b, 36, none⟩ = some (.iface 40 (.pointer (some ⟨S, 0, none⟩))))
    (first | go_keep | exact HSe.out | exact ⟨(World.cell?_setCell_other _ _ _ _ (HNE.out 28)).trans HSe.out.1, (World.cell?_setCell_other _ _ _ _ (HNE.out 36)).trans HSe.out.2⟩)
    (first | (go_at_call 103; refine HS.out.mono ?_; rintro en w2 ⟨rfl, ρ2, h2, s2⟩; have H2 := Lib.hid h2; have S2 := Lib.hid s2; have hb2 := s2.keep.blk (show Blk wa.drew _ _ _ from HBE.out) (by rw [HLW.out]; exact id); have HSe := Lib.hid (HCL.out _ _ s2); have HX2 := Lib.hid hb2; have e0 := hb2.cell (i := 0) rfl; have f0 := hb2.frozen 0; clear h2 s2 hb2))
  go_wp2
  refine leaves_cons (f := 85) (args := #[.pointer (some ⟨w.heap.size, 0, none⟩)]) (by simp) (by simp [go_sem]) ?_
  refine (idle_g ⟨w.heap.size, 0, none⟩ _).mono ?_
  rintro e u' w'' ⟨rfl, rfl, rfl⟩
  simp [Leaves, settle, results, Try.results83, go_sem]
  have e1 := (HX2.out.set 0 (.int .i64 re)).cell (i := 0) (v := .int .i64 re) rfl
  simp only [e1]
  exact ⟨_, rfl, lft_box HBD.out HBW.out HBE.out.lt HLW.out H2.out S2.out (fun F hF => Keep.set w2 0 _ hF)⟩
end
end Go.Proofs.Ytliiinffkcgcaaa.VmcE
