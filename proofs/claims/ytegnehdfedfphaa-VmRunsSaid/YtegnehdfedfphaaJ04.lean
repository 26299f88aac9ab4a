/- The ports, as a machine asks them: sends, gets, and what is deferred there. Conditions: the channels and what is worked on lie as the facts say. The reference's instructions: Arg, Right, Bytes, At. Conditions: the bytes lie as the facts say. One instruction, and a tick, with the channels, in plain terms: as the program does them, and as the document has them. No conditions but those each law names. The code's instructions: takes, known, Right. No conditions but those each law names. The code's At. Condition: the bytes lie as the facts say. The code's All. Condition: the bytes lie as the facts say. What an instruction works on, with the channels and what is told: send, get, confirm. Conditions: it lies as the facts say. -/
import Derived.Test.YtegnehdfedfphaaJ02
import Derived.Test.YtegnehdfedfphaaPrtE
import Derived.Defers
import Derived.Recover
import Derived.Test.YtegnehdfedfphaaJ01
import Derived.Test.YtegnehdfedfphaaJ03
namespace Go.Proofs.Ytegnehdfedfphaa.VmcE
open Go.RowKit Go.Proofs.Ytegnehdfedfphaa.Kit Go.Proofs.Ytegnehdfedfphaa.Byt Go.Proofs.Ytegnehdfedfphaa.Mem Go.Proofs.Ytegnehdfedfphaa.VmcM Go.Proofs.Ytegnehdfedfphaa.VmcA Go.Proofs.Ytegnehdfedfphaa.VmcB Go.Proofs.Ytegnehdfedfphaa.PrtM Go.Proofs.Ytegnehdfedfphaa.PrtA Go.Proofs.Ytegnehdfedfphaa.PrtD Go.Proofs.Ytegnehdfedfphaa.PrtE
open Go.Proofs.Ytegnehdfedfphaa.ImgA (Im)
open Go.Proofs.Ytegnehdfedfphaa.TabA (Tri)
open Go.Proofs.Ytegnehdfedfphaa.BitM (hb)

section
variable {F : Lab → Prop} {B S n c : Nat} {w w1 w2 : World} {ρ ρ1 : Nat → Lab} {A : Option Addr} {Q : Nat → Nat} {C : List Tri} {L : Nat → List Int}
/-- Behind it only what is new has changed. -/
theorem Stp.fresh (h : Stp F w ρ w1 ρ1) (k : Keep (fun i => w.heap.size ≤ i) w1 w2) : Stp F w ρ w2 ρ1 :=
  ⟨h.keep.trans k fun _ hk => .inr hk, h.old, fun i hi => (h.new i hi).imp id fun h2 => ⟨h2.1, by have := k.size; omega⟩⟩
/-- Only blocks without a label have changed. -/
theorem Chs.others (h : Chs B w1 ρ S A n c Q C L) (k : Keep (fun i => ρ i = .out) w1 w2) : Chs B w2 ρ S A n c Q C L :=
  h.carry (F := fun l => l = .out) ⟨k, fun _ _ => rfl, fun i hi => .inl (Classical.byContradiction fun hn => by have := (h.bd i hn).2; omega)⟩ (fun e => by cases e) (fun e => by cases e) (fun k e => by cases e) (fun k e => by cases e)
theorem Chs.newOut (h : Chs B w ρ S A n c Q C L) {i : Nat} (hi : w.heap.size ≤ i) : ρ i = .out := Classical.byContradiction fun hn => by have := (h.bd i hn).2; omega
end

theorem below_ad (w : World) (o : Obj) : Below w.heap.size w (w.alloc o).drew := by
  have h := (Below.refl w.heap.size w).alloc (Nat.le_refl _) o
  exact ⟨h.os, h.tape, h.output, h.size, h.block⟩
/-- The channels as ports. -/
def pv (S : Nat) : Value := .iface 40 (.pointer (some ⟨S, 0, none⟩))
set_option maxRecDepth 100000 in
theorem meth_Send (m S : Nat) (w : World) : (method (m + 1) 40 (.pointer (some ⟨S, 0, none⟩)) "Send").run Try.prog w = .ok (16, .pointer (some ⟨S, 0, none⟩)) w := by
  kernel_rfl
set_option maxRecDepth 100000 in
theorem meth_Get (m S : Nat) (w : World) : (method (m + 1) 40 (.pointer (some ⟨S, 0, none⟩)) "Get").run Try.prog w = .ok (100, .pointer (some ⟨S, 0, none⟩)) w := by
  kernel_rfl
set_option maxRecDepth 100000 in
theorem idle_s (p : Addr) (w : World) : CallsD Try.prog 81 #[.pointer (some p)] .returning w fun e u' w' => e = .returned (.tuple #[]) ∧ u' = .returning ∧ w' = w := by
  refine callsD_of_wpS Try.func81 rfl fun c₀ cs hu => ?_
  apply wpS_seq
  apply wpS_region
  simp [wpOpsS, go_sem, recoverD, hu, Try.ntmps81, Exit.thenS]
  refine wpS_cond (t := false) (by simp [Act.eval, Array.replicate]) ?_
  simp only [Bool.false_eq_true, if_false]
  refine wpS_of_wp (wp_skip ?_)
  cases c₀
  simp_all [bodyPostS, results, Try.results81]
set_option maxRecDepth 100000 in
theorem idle_g (p : Addr) (w : World) : CallsD Try.prog 82 #[.pointer (some p)] .returning w fun e u' w' => e = .returned (.tuple #[]) ∧ u' = .returning ∧ w' = w := by
  refine callsD_of_wpS Try.func82 rfl fun c₀ cs hu => ?_
  apply wpS_seq
  apply wpS_region
  simp [wpOpsS, go_sem, recoverD, hu, Try.ntmps82, Exit.thenS]
  refine wpS_cond (t := false) (by simp [Act.eval, Array.replicate]) ?_
  simp only [Bool.false_eq_true, if_false]
  refine wpS_of_wp (wp_skip ?_)
  cases c₀
  simp_all [bodyPostS, results, Try.results82]
/-- Behind a call of the ports, and two stores into the box of what is answered. -/
theorem lft_box {B S n c : Nat} {w wa w2 : World} {ρ ρ2 : Nat → Lab} {A : Option Addr} {Q : Nat → Nat} {C : List Tri} {L2 : Nat → List Int} {v : Value} (hbd : Bd B w ρ) (hbw : Below w.heap.size w wa) (hlt : w.heap.size < wa.heap.size) (hlw : ρ w.heap.size = .out)
    (h2 : Chs B w2 ρ2 S A n c Q C L2) (s2 : Stp Prog wa.drew ρ w2 ρ2) {w3 : World} (k1 : ∀ (F : Nat → Prop), F w.heap.size → Keep F w2 w3) : Lft B w ρ S A n c Q C L2 v (.returned v) w3 := by
  have hd : Below w.heap.size w wa.drew := ⟨hbw.os, hbw.tape, hbw.output, hbw.size, hbw.block⟩
  have h0 : ρ2 w.heap.size = .out := (s2.old _ hlt).trans hlw
  exact ⟨rfl, ρ2, Chs.others h2 (k1 _ h0), Stp.fresh ((Stp.of_below hbd hd).trans s2) (k1 _ (Nat.le_refl _))⟩
section
variable {v : V} {i : Im} {o b : Nat} {e : Bool} {B S n c : Nat} {w : World} {ρ : Nat → Lab} {A : Option Addr} {Q : Nat → Nat} {C : List Tri} {L : Nat → List Int}
set_option maxRecDepth 100000 in
theorem sends_any (hC : Chs B w ρ S A n c Q C L) (h : v.ok) (hB : Wb w b v i (pv S) o e) (hlb : ¬ Prog (ρ b)) (k y : Int) :
    Calls Try.prog 79 #[.pointer (some ⟨b, 0, none⟩), .int .i64 k, .int .i64 y] w (Lft B w ρ S A n c Q C (snds C L i.p k y).2 (.int .i64 (snds C L i.p k y).1.2)) := by
  have c28 : w.cell? ⟨b, 28, none⟩ = some (.int .i64 i.p) := hB.tail h (k := 0) rfl
  have c36 : w.cell? ⟨b, 36, none⟩ = some (.iface 40 (.pointer (some ⟨S, 0, none⟩))) := hB.tail h (k := 8) rfl
  obtain ⟨p, hp⟩ : ∃ p, p = i.p := ⟨_, rfl⟩
  rw [← hp] at c28 ⊢
  have hbl : b < w.heap.size := Blk.lt hB
  have HNE := Lib.hid (show ∀ j, (⟨w.heap.size, 0, none⟩ : Addr) ≠ ⟨b, j, none⟩ from fun j hh => by injection hh with hh; omega)
  obtain ⟨wa, hwa⟩ : ∃ wa, wa = w.alloc (.cells #[.int .i64 0] 34) := ⟨_, rfl⟩
  have hBa : Wb wa b v i (pv S) o e := by rw [hwa]; exact Blk.alloc hB _
  have c28a : wa.cell? ⟨b, 28, none⟩ = some (.int .i64 i.p) := hBa.tail h (k := 0) rfl
  have c36a : wa.cell? ⟨b, 36, none⟩ = some (.iface 40 (.pointer (some ⟨S, 0, none⟩))) := hBa.tail h (k := 8) rfl
  have HBE : Hid (Blk wa w.heap.size 34 [.int .i64 0]) := Lib.hid (by rw [hwa]; exact Blk.new w _ _)
  have HBW : Hid (Below w.heap.size w wa) := Lib.hid (by rw [hwa]; exact (Below.refl _ _).alloc (Nat.le_refl _) _)
  rw [← hp] at c28a
  have hs := send_any (hC.below (w' := wa.drew) (by rw [hwa]; exact below_ad w _)) p k y
  obtain ⟨r, hr⟩ : ∃ r, r = snds C L p k y := ⟨_, rfl⟩
  rw [← hr] at hs ⊢
  obtain ⟨⟨rb, re⟩, L2⟩ := r
  dsimp only at hs ⊢
  have HS := Lib.hid hs
  have HC := Lib.hid hC
  have hm := fun (m : Nat) (w : World) => meth_Send m S w
  have hmf : ∀ (fn : Fn) (first cap : Array Value) (w : World), (Instr.makeFunc fn first cap).run Try.prog w = .ok (.func fn first cap) w := fun _ _ _ _ => rfl
  have HBD := Lib.hid hC.bd
  have HLW := Lib.hid (Chs.newOut hC (Nat.le_refl w.heap.size))
  have HCL := Lib.hid (show ∀ w2 ρ2, Stp Prog wa.drew ρ w2 ρ2 → w2.cell? ⟨b, 28, none⟩ = some (.int .i64 p) ∧ w2.cell? ⟨b, 36, none⟩ = some (.iface 40 (.pointer (some ⟨S, 0, none⟩))) from fun w2 ρ2 s2 => by
    have hb2 : Wb w2 b v i (pv S) o e := s2.keep.blk (show Blk wa.drew b _ _ from hBa) hlb
    exact ⟨by rw [hp]; exact hb2.tail h (k := 0) rfl, hb2.tail h (k := 8) rfl⟩)
  clear hB h hs hr hC hp hBa c28 c36 hlb
  go_enter_defers Try.func79, Try.ntmps79
  go_wp2_with fail
  rw [← hwa]
  clear hwa
  go_region_held3 (fun w' => w'.cell? ⟨b, 28, none⟩ = some (.int .i64 p) ∧ w'.cell? ⟨b, 36, none⟩ = some (.iface 40 (.pointer (some ⟨S, 0, none⟩))))
    (first | go_keep | exact HSe.out | exact ⟨(World.cell?_setCell_other _ _ _ _ (HNE.out 28)).trans HSe.out.1, (World.cell?_setCell_other _ _ _ _ (HNE.out 36)).trans HSe.out.2⟩)
    (first | (go_at_call 16; refine HS.out.mono ?_; rintro en w2 ⟨rfl, ρ2, h2, s2⟩; have H2 := Lib.hid h2; have S2 := Lib.hid s2; have hb2 := s2.keep.blk (show Blk wa.drew _ _ _ from HBE.out) (by rw [HLW.out]; exact id); have HSe := Lib.hid (HCL.out _ _ s2); have HX2 := Lib.hid hb2; have e0 := hb2.cell (i := 0) rfl; have f0 := hb2.frozen 0; clear h2 s2 hb2))
  go_wp2
  refine leaves_cons (f := 81) (args := #[.pointer (some ⟨w.heap.size, 0, none⟩)]) (by simp) (by simp [go_sem]) ?_
  refine (idle_s ⟨w.heap.size, 0, none⟩ _).mono ?_
  rintro e u' w'' ⟨rfl, rfl, rfl⟩
  simp [Leaves, settle, results, Try.results79, go_sem]
  have e1 := ((HX2.out.set 0 (.int .i64 re)).set 0 (.int .i64 re)).cell (i := 0) (v := .int .i64 re) rfl
  simp only [e1]
  exact ⟨_, rfl, lft_box HBD.out HBW.out HBE.out.lt HLW.out H2.out S2.out (fun F hF => (Keep.set w2 0 _ hF).trans (Keep.set _ 0 _ hF) fun _ h => .inl h)⟩
set_option maxRecDepth 100000 in
theorem gets_any (hC : Chs B w ρ S A n c Q C L) (h : v.ok) (hB : Wb w b v i (pv S) o e) (hlb : ¬ Prog (ρ b)) (k : Int) :
    Calls Try.prog 80 #[.pointer (some ⟨b, 0, none⟩), .int .i64 k] w (Lft B w ρ S A n c Q C (gets C L i.p k).2 (.tuple #[.int .i64 (gets C L i.p k).1.1, .bool (gets C L i.p k).1.2.1, .int .i64 (gets C L i.p k).1.2.2])) := by
  have c28 : w.cell? ⟨b, 28, none⟩ = some (.int .i64 i.p) := hB.tail h (k := 0) rfl
  have c36 : w.cell? ⟨b, 36, none⟩ = some (.iface 40 (.pointer (some ⟨S, 0, none⟩))) := hB.tail h (k := 8) rfl
  obtain ⟨p, hp⟩ : ∃ p, p = i.p := ⟨_, rfl⟩
  rw [← hp] at c28 ⊢
  have hbl : b < w.heap.size := Blk.lt hB
  have HNE := Lib.hid (show ∀ j, (⟨w.heap.size, 0, none⟩ : Addr) ≠ ⟨b, j, none⟩ from fun j hh => by injection hh with hh; omega)
  obtain ⟨wa, hwa⟩ : ∃ wa, wa = w.alloc (.cells #[.int .i64 0] 34) := ⟨_, rfl⟩
  have hBa : Wb wa b v i (pv S) o e := by rw [hwa]; exact Blk.alloc hB _
  have c28a : wa.cell? ⟨b, 28, none⟩ = some (.int .i64 i.p) := hBa.tail h (k := 0) rfl
  have c36a : wa.cell? ⟨b, 36, none⟩ = some (.iface 40 (.pointer (some ⟨S, 0, none⟩))) := hBa.tail h (k := 8) rfl
  have HBE : Hid (Blk wa w.heap.size 34 [.int .i64 0]) := Lib.hid (by rw [hwa]; exact Blk.new w _ _)
  have HBW : Hid (Below w.heap.size w wa) := Lib.hid (by rw [hwa]; exact (Below.refl _ _).alloc (Nat.le_refl _) _)
  rw [← hp] at c28a
  have hs := get_any (hC.below (w' := wa.drew) (by rw [hwa]; exact below_ad w _)) p k
  obtain ⟨r, hr⟩ : ∃ r, r = gets C L p k := ⟨_, rfl⟩
  rw [← hr] at hs ⊢
  obtain ⟨⟨rn, rb, re⟩, L2⟩ := r
  dsimp only at hs ⊢
  have HS := Lib.hid hs
  have HC := Lib.hid hC
  have hm := fun (m : Nat) (w : World) => meth_Get m S w
  have hmf : ∀ (fn : Fn) (first cap : Array Value) (w : World), (Instr.makeFunc fn first cap).run Try.prog w = .ok (.func fn first cap) w := fun _ _ _ _ => rfl
  have HBD := Lib.hid hC.bd
  have HLW := Lib.hid (Chs.newOut hC (Nat.le_refl w.heap.size))
  have HCL := Lib.hid (show ∀ w2 ρ2, Stp Prog wa.drew ρ w2 ρ2 → w2.cell? ⟨b, 28, none⟩ = some (.int .i64 p) ∧ w2.cell? ⟨b, 36, none⟩ = some (.iface 40 (.pointer (some ⟨S, 0, none⟩))) from fun w2 ρ2 s2 => by
    have hb2 : Wb w2 b v i (pv S) o e := s2.keep.blk (show Blk wa.drew b _ _ from hBa) hlb
    exact ⟨by rw [hp]; exact hb2.tail h (k := 0) rfl, hb2.tail h (k := 8) rfl⟩)
  clear hB h hs hr hC hp hBa c28 c36 hlb
  go_enter_defers Try.func80, Try.ntmps80
  go_wp2_with fail
  rw [← hwa]
  clear hwa
  go_region_held3 (fun w' => w'.cell? ⟨b, 28, none⟩ = some (.int .i64 p) ∧ w'.cell? ⟨b, 36, none⟩ = some (.iface 40 (.pointer (some ⟨S, 0, none⟩))))
    (first | go_keep | exact HSe.out | exact ⟨(World.cell?_setCell_other _ _ _ _ (HNE.out 28)).trans HSe.out.1, (World.cell?_setCell_other _ _ _ _ (HNE.out 36)).trans HSe.out.2⟩)
    (first | (go_at_call 100; refine HS.out.mono ?_; rintro en w2 ⟨rfl, ρ2, h2, s2⟩; have H2 := Lib.hid h2; have S2 := Lib.hid s2; have hb2 := s2.keep.blk (show Blk wa.drew _ _ _ from HBE.out) (by rw [HLW.out]; exact id); have HSe := Lib.hid (HCL.out _ _ s2); have HX2 := Lib.hid hb2; have e0 := hb2.cell (i := 0) rfl; have f0 := hb2.frozen 0; clear h2 s2 hb2))
  go_wp2
  refine leaves_cons (f := 82) (args := #[.pointer (some ⟨w.heap.size, 0, none⟩)]) (by simp) (by simp [go_sem]) ?_
  refine (idle_g ⟨w.heap.size, 0, none⟩ _).mono ?_
  rintro e u' w'' ⟨rfl, rfl, rfl⟩
  simp [Leaves, settle, results, Try.results80, go_sem]
  have e1 := (HX2.out.set 0 (.int .i64 re)).cell (i := 0) (v := .int .i64 re) rfl
  simp only [e1]
  exact ⟨_, rfl, lft_box HBD.out HBW.out HBE.out.lt HLW.out H2.out S2.out (fun F hF => Keep.set w2 0 _ hF)⟩
end
end Go.Proofs.Ytegnehdfedfphaa.VmcE
namespace Go.Proofs.Ytegnehdfedfphaa.OpsA
open Go.RowKit Go.Proofs.Ytegnehdfedfphaa.Kit Go.Proofs.Ytegnehdfedfphaa.Byt Go.Proofs.Ytegnehdfedfphaa.Mem Go.Proofs.Ytegnehdfedfphaa.OpsM

set_option maxRecDepth 100000 in
theorem rarg_any (o : Int) (w : World) : Calls Try.prog 45 #[.int .i64 o] w fun e w' => e = .returned (.bool (hasA o)) ∧ w = w' := by
  by_cases h1 : o = 1
  · subst h1
    go_enter Try.func45, Try.ntmps45
    go_wp2
    go_ret
    exact ⟨rfl, rfl⟩
  · have h1' : (o == 1) = false := by simpa using h1
    by_cases h2 : 10 ≤ o
    · go_enter Try.func45, Try.ntmps45
      go_wp2
      go_ret
      exact ⟨ret_bool (by rw [Bool.eq_iff_iff]; simp [hasA]; omega), rfl⟩
    · go_enter Try.func45, Try.ntmps45
      go_wp2
      go_ret
      exact ⟨ret_bool (by rw [Bool.eq_iff_iff]; simp [hasA]; omega), rfl⟩
/-- Nothing but more. -/
def Yes (w : World) (b : Bool) (e : Ending) (w' : World) : Prop := e = .returned (.bool b) ∧ Below w.heap.size w w'
/-- Bytes that are handed back, and all that was there is as it was. -/
def HandsB (w : World) (xs : List Nat) (e : Ending) (w' : World) : Prop := ∃ A n c, e = .returned (.slice A n c) ∧ Rd w' A n c (u8n xs) ∧ Below w.heap.size w w'
theorem info_u8 : (Try.prog.info? 5).map (fun i => (i.zero, i.size, i.bytes)) = some (some (.int .u8 0), 1, 1) := by kernel_rfl
theorem own_one (w : World) (base : Nat) (x : Int) (h : base ≤ w.heap.size) : (w.alloc (.cells #[.int .u8 x] 5)).ownsRow base 5 1 (.slice (some ⟨w.heap.size, 0, none⟩) 1 1) 1 [.int .u8 x] := by
  have h := own_of_block (w := w.alloc (.cells #[.int .u8 x] 5)) (g := w.heap.size) (cur := [.int .u8 x]) (e := 5) (base := base) (n := 1) (heap_alloc_new w _) h (by simp) (by simp)
  exact h

/-- The instruction that begins there; how the reference tells of it. -/
def atI (c : List Nat) (pc : Int) : Option (Int × Int × Nat) := if pc < 0 then none else at1 (c.drop pc.toNat)
def got (pc : Int) : Option (Int × Int × Nat) → Value
  | none => .agg #[.int .i64 0, .int .i64 0, .int .i64 0, .bool false]
  | some (o, a, n) => .agg #[.int .i64 o, .int .i64 a, .int .i64 (pc + n), .bool true]
set_option maxRecDepth 100000 in
set_option maxHeartbeats 1600000 in
theorem rat_any (A : Option Addr) (n c : Nat) (xs : List Nat) (pc : Int) (w : World) (hr : Rd w A n c (u8n xs)) (hx : ∀ b ∈ xs, b < 256) (hp : n64 pc) :
    Calls Try.prog 30 #[.slice A n c, .int .i64 pc] w fun e w' => e = .returned (got pc (atI xs pc)) ∧ Below w.heap.size w w' := by
  obtain rfl := Rd.nats hr
  have hle : xs.length ≤ 9223372036854775807 := by have := hr.le; have := hr.cap; omega
  obtain ⟨hp1, hp2⟩ := hp
  have HB := Lib.hid ((Below.refl w.heap.size w).alloc (Nat.le_refl _) (.cells #[.int .i64 0, .int .i64 0, .int .i64 0, .bool false] 108))
  have HF := Lib.hid (fun (G I : Array Value) => ((Below.refl w.heap.size w).alloc (Nat.le_refl _) (.cells G 108)).alloc (by simp) (.cells I 106))
  have HF0 := Lib.hid (fun (x : Int) => HF.out #[.int .i64 0, .int .i64 0, .int .i64 0, .bool false] #[.int .i64 x, .int .i64 0])
  by_cases h1 : pc < 0
  · have HE := Lib.hid (show atI xs pc = none from if_pos h1)
    go_enter Try.func30, Try.ntmps30
    go_wp2
    refine bodyPost_ret (v := got pc none) (by simp [results, Try.results30, go_sem, got]) rfl ?_
    exact ⟨by rw [HE.out], HB.out⟩
  · obtain ⟨k, rfl⟩ : ∃ k : Nat, pc = k := ⟨pc.toNat, by omega⟩
    by_cases h2 : (k : Int) < xs.length
    · have hk : k < xs.length := by omega
      obtain ⟨b, hb⟩ : ∃ b, b = xs[k] := ⟨_, rfl⟩
      have hb256 := hx _ (List.getElem_mem hk)
      obtain ⟨bx, ox, rfl, gx⟩ := Rd.nat hr hk
      rw [← hb] at gx hb256
      have gx2 : (w.alloc (.cells #[.int .i64 0, .int .i64 0, .int .i64 0, .bool false] 108)).cell? ⟨bx, ox + k, none⟩ = some (.int .u8 (b : Nat)) := (HB.out.cell (p := ⟨bx, ox + k, none⟩) (block_lt_of_cell gx)).trans gx
      have hnk : decide (xs.length ≤ k) = false := by simp; omega
      have hdr : xs.drop k = b :: xs.drop (k + 1) := by rw [hb]; exact List.drop_eq_getElem_cons hk
      by_cases h3 : (18 : Int) < b
      · have HE := Lib.hid (show atI xs k = none from by rw [atI, if_neg h1, Int.toNat_natCast, hdr]; exact if_pos (by omega))
        clear hdr hb
        go_enter Try.func30, Try.ntmps30
        go_wp2
        refine bodyPost_ret (v := got k none) (by simp [results, Try.results30, go_sem, got]) rfl ?_
        exact ⟨by rw [HE.out], HB.out⟩
      · have hb18 : b ≤ 18 := by omega
        cases hh : hasA b
        · have HE := Lib.hid (show atI xs k = some ((b : Int), 0, 1) from by rw [atI, if_neg h1, Int.toNat_natCast, hdr]; exact (if_neg (by omega)).trans (if_neg (by rw [hh]; simp)))
          have HH := Lib.hid (fun w' => hh ▸ rarg_any b w')
          clear hh hdr hb
          go_enter Try.func30, Try.ntmps30
          go_wp2_with (go_at_call 45; refine (HH.out _).mono ?_; rintro e w' ⟨rfl, rfl⟩)
          refine bodyPost_ret (v := got k (some (b, 0, 1))) (by simp [results, Try.results30, go_sem, got]) rfl ?_
          exact ⟨by rw [HE.out], HF.out _ _⟩
        · by_cases h5 : ((k : Int) + 1) < xs.length
          · have hk5 : k + 1 < xs.length := by omega
            obtain ⟨d, hd⟩ : ∃ d, d = xs[k + 1] := ⟨_, rfl⟩
            have hd256 := hx _ (List.getElem_mem hk5)
            obtain ⟨bx', ox', hA, gy⟩ := Rd.nat hr hk5
            rw [← hd] at gy hd256
            simp only [Option.some.injEq, Addr.mk.injEq, and_true] at hA
            obtain ⟨rfl, rfl⟩ := hA
            have gy2 := ((HF0.out (b : Int)).cell (p := ⟨bx, ox + (k + 1), none⟩) (block_lt_of_cell gy)).trans gy
            have gy3 : ((w.alloc (.cells #[.int .i64 0, .int .i64 0, .int .i64 0, .bool false] 108)).alloc (.cells #[.int .i64 (b : Int), .int .i64 0] 106)).cell? ⟨bx, ox + k + 1, none⟩ = some (.int .u8 (d : Nat)) := gy2
            have hn5 : ¬ xs.length ≤ k + 1 := by omega
            have hdr5 : xs.drop (k + 1) = d :: xs.drop (k + 1 + 1) := by rw [hd]; exact List.drop_eq_getElem_cons hk5
            have HE := Lib.hid (show atI xs k = some ((b : Int), (d : Int), 2) from by rw [atI, if_neg h1, Int.toNat_natCast, hdr, hdr5]; exact (if_neg (by omega)).trans (if_pos hh))
            have HH := Lib.hid (fun w' => hh ▸ rarg_any b w')
            clear hh hdr hdr5 hb hd
            go_enter Try.func30, Try.ntmps30
            go_wp2_with (go_at_call 45; refine (HH.out _).mono ?_; rintro e w' ⟨rfl, rfl⟩)
            refine bodyPost_ret (v := got k (some (b, d, 2))) (by simp [results, Try.results30, go_sem, got]) rfl ?_
            exact ⟨by rw [HE.out], HF.out _ _⟩
          · have HE := Lib.hid (show atI xs k = none from by rw [atI, if_neg h1, Int.toNat_natCast, hdr, List.drop_eq_nil_of_le (show xs.length ≤ k + 1 from by omega)]; exact (if_neg (by omega)).trans (if_pos hh))
            have HH := Lib.hid (fun w' => hh ▸ rarg_any b w')
            clear hh hdr hb
            go_enter Try.func30, Try.ntmps30
            go_wp2_with (go_at_call 45; refine (HH.out _).mono ?_; rintro e w' ⟨rfl, rfl⟩)
            refine bodyPost_ret (v := got k none) (by simp [results, Try.results30, go_sem, got]) rfl ?_
            exact ⟨by rw [HE.out], HF.out _ _⟩
    · have HE := Lib.hid (show atI xs k = none from by rw [atI, if_neg h1, List.drop_eq_nil_of_le (by omega)]; rfl)
      go_enter Try.func30, Try.ntmps30
      go_wp2
      refine bodyPost_ret (v := got k none) (by simp [results, Try.results30, go_sem, got]) rfl ?_
      exact ⟨by rw [HE.out], HB.out⟩
/-! ### what the code's calls hand back -/
def allOk (R : List (Int × Int)) : Bool := R.all fun p => ok p.1 p.2
def Puts (w : World) (R : List (Int × Int)) (e : Ending) (w' : World) : Prop := ∃ B m d, e = .returned (.tuple #[.slice B m d, .int .i64 (if allOk R then 0 else 19)]) ∧ Rd w' B m d (u8n (if allOk R then R.flatMap bts else [])) ∧ Below w.heap.size w w'
def Finds (w : World) (pc : Int) (x : Option (Int × Int × Nat)) (e : Ending) (w' : World) : Prop :=
  e = .returned (.tuple #[.agg #[.int .i64 ((x.map (·.1)).getD 0), .int .i64 ((x.map (·.2.1)).getD 0)], .int .i64 ((x.map fun y => pc + y.2.2).getD 0), .int .i64 (if x.isSome then 0 else 19)]) ∧ Below w.heap.size w w'
def Alls (w : World) (x : Option (List (Int × Int))) (e : Ending) (w' : World) : Prop := ∃ B m d, e = .returned (.tuple #[.slice B m d, .int .i64 (if x.isSome then 0 else 19)]) ∧ Prs w' B m d (x.getD []) ∧ Below w.heap.size w w'
end Go.Proofs.Ytegnehdfedfphaa.OpsA
namespace Go.Proofs.Ytegnehdfedfphaa.VmcF
open Go.RowKit Go.Proofs.Ytegnehdfedfphaa.Kit Go.Proofs.Ytegnehdfedfphaa.Byt Go.Proofs.Ytegnehdfedfphaa.PrtM Go.Proofs.Ytegnehdfedfphaa.OpsM Go.Proofs.Ytegnehdfedfphaa.OpsA Go.Proofs.Ytegnehdfedfphaa.VmcM
open Go.Proofs.Ytegnehdfedfphaa.TabA (Tri)
open Go.Proofs.Ytegnehdfedfphaa.ImgA (Im)
open Go.Proofs.Ytegnehdfedfphaa.BitM (hb)

/-- What a deed of the program leaves: the state, the channels, what was sent, whether it confirmed, whether the tick ends. -/
structure R where
  v : V
  L : Nat → List Int
  sn : List (Int × Int)
  cf : Bool
  e : Bool
def sndR (i : Im) (C : List Tri) (a : Int) (r : R) : R :=
  let u := takeV (need (hb i.s a) 15 r.v)
  let x := takeN (need (hb i.s a) 15 r.v)
  if u.ft = 0 then
    let t := snds C r.L i.p a x
    { r with v := need (decide (t.1.2 = 0)) 15 u, L := t.2, sn := if t.1.2 = 0 then r.sn ++ [(a, x)] else r.sn }
  else { r with v := u }
def getR (i : Im) (C : List Tri) (a : Int) (r : R) : R :=
  let u := need (decide (r.v.h + 2 ≤ 8)) 14 (need (hb i.r a) 15 r.v)
  if u.ft = 0 then
    let t := gets C r.L i.p a
    let u3 := need (decide (t.1.2.2 = 0)) 15 u
    { r with v := lay (tru t.1.2.1) (if t.1.2.1 = true then lay t.1.1 u3 else u3), L := t.2 }
  else { r with v := u }
def deedR (i : Im) (C : List Tri) (o a : Int) (r : R) : R :=
  if o = 0 then { r with e := true } else if o = 14 then sndR i C a r else if o = 15 then getR i C a r else if o = 16 then { r with cf := true } else { r with v := deed i o a r.v }
/-- One instruction of the program. -/
def stepV (i : Im) (C : List Tri) (r : R) : R :=
  match atI i.xs r.v.pc with
  | none => { r with v := { r.v with ft := 19 }, e := true }
  | some (o, a, n) =>
    let d := deedR i C o a { r with v := { r.v with pc := r.v.pc + n }, e := false }
    if d.v.ft ≠ 0 then { d with v := { r.v with ft := d.v.ft }, e := true } else d

/-! ### the document -/
structure T where
  z : Z
  L : Nat → List Int
  sn : List (Int × Int)
  cf : Bool
  e : Bool
def failT (f : Int) (t : T) : T := { t with z := { t.z with ft := f }, e := true }
def sndT (i : Im) (C : List Tri) (a nx : Int) (t : T) : T :=
  let x := top t.z.st
  let r := snds C t.L i.p a x
  if r.1.2 = 0 then { t with z := { t.z with pc := nx, st := t.z.st.dropLast }, L := r.2, sn := t.sn ++ [(a, x)], e := false } else { failT 15 t with L := r.2 }
def getT (i : Im) (C : List Tri) (a nx : Int) (t : T) : T :=
  let r := gets C t.L i.p a
  if r.1.2.2 = 0 then { t with z := { t.z with pc := nx, st := if r.1.2.1 = true then push 1 (push r.1.1 t.z.st) else push 0 t.z.st }, L := r.2, e := false } else { failT 15 t with L := r.2 }
def stpT (i : Im) (C : List Tri) (t : T) : T :=
  match atI i.xs t.z.pc with
  | none => failT 19 t
  | some (o, a, n) =>
    if flt i t.z.st.length o a ≠ 0 then failT (flt i t.z.st.length o a) t
    else if o = 14 then sndT i C a (t.z.pc + n) t else if o = 15 then getT i C a (t.z.pc + n) t
    else { t with z := eff o a (t.z.pc + n) t.z, cf := t.cf || decide (o = 16), e := decide (o = 0) }
def R.t (r : R) (k : Nat) : T := ⟨r.v.z k, r.L, r.sn, r.cf, r.e⟩

/-! ### they are one -/
theorem z_len {v : V} (h : v.ok) (k : Nat) : (v.z k).st.length = v.h := by
  show (v.s.take v.h).length = v.h
  rw [List.length_take, h.ls]
  have := h.h8
  omega
theorem snds_refuse {C : List Tri} {L : Nat → List Int} {p k n : Int} (h : (snds C L p k n).1.2 ≠ 0) : (snds C L p k n).2 = L := by
  unfold snds at h ⊢
  split
  · rfl
  · rename_i h1
    rw [if_neg h1] at h
    split
    · rfl
    · rename_i h2
      rw [if_neg h2] at h
      exact absurd rfl h
theorem gets_refuse {C : List Tri} {L : Nat → List Int} {p k : Int} (h : (gets C L p k).1.2.2 ≠ 0) : (gets C L p k).2 = L := by
  unfold gets at h ⊢
  split
  · rfl
  · rename_i h1
    rw [if_neg h1] at h
    exact absurd rfl h
theorem z_pc (v : V) (p : Int) (k : Nat) : ({ v with pc := p } : V).z k = { v.z k with pc := p } := rfl
theorem z_ft (v : V) (f : Int) (k : Nat) : ({ v with ft := f } : V).z k = { v.z k with ft := f } := rfl
theorem sndR_t {i : Im} {C : List Tri} {a : Int} {r : R} (h : r.v.ok) (hf : r.v.ft = 0) (he : r.e = false) :
    (flt i r.v.h 14 a ≠ 0 → (sndR i C a r).v.ft = flt i r.v.h 14 a ∧ (sndR i C a r).L = r.L ∧ (sndR i C a r).sn = r.sn ∧ (sndR i C a r).cf = r.cf) ∧
    (flt i r.v.h 14 a = 0 → ((snds C r.L i.p a (top (r.v.z i.m.toNat).st)).1.2 ≠ 0 → (sndR i C a r).v.ft = 15 ∧ (sndR i C a r).L = r.L ∧ (sndR i C a r).sn = r.sn ∧ (sndR i C a r).cf = r.cf) ∧
      ((snds C r.L i.p a (top (r.v.z i.m.toNat).st)).1.2 = 0 → (sndR i C a r).v.ft = 0 ∧ (sndR i C a r).t i.m.toNat = sndT i C a r.v.pc (r.t i.m.toNat))) := by
  have ef : flt i r.v.h 14 a = if hb i.s a = false then 15 else if r.v.h = 0 then 5 else 0 := by
    have h8 := h.h8
    unfold flt
    rw [if_neg (by omega), if_neg (by omega), show takes 14 = 1 from rfl, show lays 14 = 0 from rfl]
    by_cases hh : hb i.s a = false
    · rw [if_pos (Or.inl ⟨rfl, hh⟩), if_pos hh]
    · rw [if_neg (fun q => by rcases q with q | q; exact hh q.2; exact absurd q.1 (by decide)), if_neg hh]
      by_cases h0 : r.v.h = 0
      · rw [if_pos (by omega), if_pos h0]
      · rw [if_neg (by omega), if_neg h0, if_neg (by omega)]
  rw [ef]
  by_cases hh : hb i.s a = false
  · rw [if_pos hh]
    refine ⟨fun _ => ?_, fun hx => absurd hx (by decide)⟩
    have e1 : (need (hb i.s a) 15 r.v).ft = 15 := by rw [hh, need_no hf]
    have e2 : (takeV (need (hb i.s a) 15 r.v)).ft = 15 := by rw [take_keep (by rw [e1]; decide), e1]
    unfold sndR
    dsimp only
    rw [if_neg (by rw [e2]; decide)]
    exact ⟨e2, rfl, rfl, rfl⟩
  · have hh' : hb i.s a = true := by simpa using hh
    rw [if_neg hh]
    have eN : need (hb i.s a) 15 r.v = r.v := by rw [hh', need_true]
    by_cases h0 : r.v.h = 0
    · rw [if_pos h0]
      refine ⟨fun _ => ?_, fun hx => absurd hx (by decide)⟩
      have e2 := take_no h0 hf
      unfold sndR
      rw [eN]
      dsimp only
      rw [if_neg (by rw [e2]; decide)]
      exact ⟨e2, rfl, rfl, rfl⟩
    · rw [if_neg h0]
      refine ⟨fun hx => absurd rfl hx, fun _ => ?_⟩
      obtain ⟨a1, a2, a3, a4, a5⟩ := take_h h0
      have t1 := take_top (k := i.m.toNat) h h0
      have e1 := take_z (k := i.m.toNat) h h0
      have hs : sndR i C a r = { r with v := need (decide ((snds C r.L i.p a (takeN r.v)).1.2 = 0)) 15 (takeV r.v), L := (snds C r.L i.p a (takeN r.v)).2, sn := if (snds C r.L i.p a (takeN r.v)).1.2 = 0 then r.sn ++ [(a, takeN r.v)] else r.sn } := by
        unfold sndR
        rw [eN]
        dsimp only
        rw [if_pos (by rw [a2]; exact hf)]
      rw [hs, t1]
      constructor
      · intro hx
        rw [decide_eq_false hx, if_neg hx, snds_refuse hx]
        exact ⟨by show (need false 15 (takeV r.v)).ft = 15; rw [need_no (by rw [a2]; exact hf)], rfl, rfl, rfl⟩
      · intro hx
        rw [decide_eq_true hx, if_pos hx, need_true]
        refine ⟨by show (takeV r.v).ft = 0; rw [a2]; exact hf, ?_⟩
        unfold sndT R.t
        dsimp only
        rw [if_pos hx, e1, he]
        rfl
theorem getR_t {i : Im} {C : List Tri} {a : Int} {r : R} (h : r.v.ok) (hf : r.v.ft = 0) (he : r.e = false) :
    (flt i r.v.h 15 a ≠ 0 → (getR i C a r).v.ft = flt i r.v.h 15 a ∧ (getR i C a r).L = r.L ∧ (getR i C a r).sn = r.sn ∧ (getR i C a r).cf = r.cf) ∧
    (flt i r.v.h 15 a = 0 → ((gets C r.L i.p a).1.2.2 ≠ 0 → (getR i C a r).v.ft = 15 ∧ (getR i C a r).L = r.L ∧ (getR i C a r).sn = r.sn ∧ (getR i C a r).cf = r.cf) ∧
      ((gets C r.L i.p a).1.2.2 = 0 → (getR i C a r).v.ft = 0 ∧ (getR i C a r).t i.m.toNat = getT i C a r.v.pc (r.t i.m.toNat))) := by
  have h8 := h.h8
  have ef : flt i r.v.h 15 a = if hb i.r a = false then 15 else if r.v.h + 2 ≤ 8 then 0 else 14 := by
    unfold flt
    rw [if_neg (by omega), if_neg (by omega), show takes 15 = 0 from rfl, show lays 15 = 2 from rfl]
    by_cases hh : hb i.r a = false
    · rw [if_pos (Or.inr ⟨rfl, hh⟩), if_pos hh]
    · rw [if_neg (fun q => by rcases q with q | q; exact absurd q.1 (by decide); exact hh q.2), if_neg hh, if_neg (by omega)]
      by_cases h0 : r.v.h + 2 ≤ 8
      · rw [if_neg (by omega), if_pos h0]
      · rw [if_pos (by omega), if_neg h0]
  rw [ef]
  by_cases hh : hb i.r a = false
  · rw [if_pos hh]
    refine ⟨fun _ => ?_, fun hx => absurd hx (by decide)⟩
    have e1 : (need (hb i.r a) 15 r.v).ft = 15 := by rw [hh, need_no hf]
    have e2 : (need (decide (r.v.h + 2 ≤ 8)) 14 (need (hb i.r a) 15 r.v)).ft = 15 := by rw [need_keep (by rw [e1]; decide), e1]
    unfold getR
    dsimp only
    rw [if_neg (by rw [e2]; decide)]
    exact ⟨e2, rfl, rfl, rfl⟩
  · have hh' : hb i.r a = true := by simpa using hh
    rw [if_neg hh]
    have eN : need (hb i.r a) 15 r.v = r.v := by rw [hh', need_true]
    by_cases h0 : r.v.h + 2 ≤ 8
    · rw [if_pos h0]
      refine ⟨fun hx => absurd rfl hx, fun _ => ?_⟩
      have hs : getR i C a r = { r with v := lay (tru (gets C r.L i.p a).1.2.1) (if (gets C r.L i.p a).1.2.1 = true then lay (gets C r.L i.p a).1.1 (need (decide ((gets C r.L i.p a).1.2.2 = 0)) 15 r.v) else need (decide ((gets C r.L i.p a).1.2.2 = 0)) 15 r.v), L := (gets C r.L i.p a).2 } := by
        unfold getR
        rw [eN, decide_eq_true h0, need_true]
        dsimp only
        rw [if_pos hf]
      rw [hs]
      constructor
      · intro hx
        rw [decide_eq_false hx, gets_refuse hx, need_no hf]
        refine ⟨?_, rfl, rfl, rfl⟩
        show (lay _ _).ft = 15
        have k15 : ({ r.v with ft := 15 } : V).ft ≠ 0 := by show (15 : Int) ≠ 0; decide
        split
        · have k2 := lay_keep (n := (gets C r.L i.p a).1.1) k15
          rw [lay_keep (by rw [k2]; exact k15), k2]
        · rw [lay_keep k15]
      · intro hx
        rw [decide_eq_true hx, need_true]
        unfold getT R.t
        dsimp only
        rw [if_pos hx, he]
        cases hi : (gets C r.L i.p a).1.2.1 with
        | true =>
          rw [if_pos rfl, if_pos rfl]
          obtain ⟨c1, c2, c3, c4, c5⟩ := lay_h (v := r.v) (n := (gets C r.L i.p a).1.1) (by omega)
          obtain ⟨d1, d2, d3, d4, d5⟩ := lay_h (v := lay (gets C r.L i.p a).1.1 r.v) (n := tru true) (by omega)
          refine ⟨by rw [d2, c2]; exact hf, ?_⟩
          rw [lay_z (h.lay _) (by omega), lay_z h (by omega), c2, c3, c4]
          rfl
        | false =>
          rw [if_neg (by simp), if_neg (by simp)]
          obtain ⟨c1, c2, c3, c4, c5⟩ := lay_h (v := r.v) (n := tru false) (by omega)
          refine ⟨by rw [c2]; exact hf, ?_⟩
          rw [lay_z h (by omega)]
          rfl
    · rw [if_neg h0]
      refine ⟨fun _ => ?_, fun hx => absurd hx (by decide)⟩
      have e2 : (need (decide (r.v.h + 2 ≤ 8)) 14 r.v).ft = 14 := by rw [decide_eq_false h0, need_no hf]
      unfold getR
      rw [eN]
      dsimp only
      rw [if_neg (by rw [e2]; decide)]
      exact ⟨e2, rfl, rfl, rfl⟩
theorem R.ok.deedR {i : Im} {C : List Tri} {o a : Int} {r : R} (h : r.v.ok) : (VmcF.deedR i C o a r).v.ok := by
  unfold VmcF.deedR
  split
  · exact h
  · split
    · unfold sndR
      dsimp only
      split
      · exact (h.need _ _).takeV.need _ _
      · exact (h.need _ _).takeV
    · split
      · unfold getR
        dsimp only
        split
        · refine V.ok.lay ?_ _
          split
          · exact (((h.need _ _).need _ _).need _ _).lay _
          · exact ((h.need _ _).need _ _).need _ _
        · exact (h.need _ _).need _ _
      · split
        · exact h
        · exact h.deed _ _ _
theorem stepV_ok {i : Im} {C : List Tri} {r : R} (h : r.v.ok) : (stepV i C r).v.ok := by
  unfold stepV
  split
  · exact h.ft _
  · rename_i o a n _
    dsimp only
    split
    · exact h.ft _
    · exact R.ok.deedR (r := { r with v := { r.v with pc := r.v.pc + n }, e := false }) (h.pc _)
theorem sndT_yes {i : Im} {C : List Tri} {a nx : Int} {t : T} (h : (snds C t.L i.p a (top t.z.st)).1.2 = 0) : sndT i C a nx t = { t with z := { t.z with pc := nx, st := t.z.st.dropLast }, L := (snds C t.L i.p a (top t.z.st)).2, sn := t.sn ++ [(a, top t.z.st)], e := false } := if_pos h
theorem sndT_no {i : Im} {C : List Tri} {a nx : Int} {t : T} (h : (snds C t.L i.p a (top t.z.st)).1.2 ≠ 0) : sndT i C a nx t = { failT 15 t with L := (snds C t.L i.p a (top t.z.st)).2 } := if_neg h
theorem getT_yes {i : Im} {C : List Tri} {a nx : Int} {t : T} (h : (gets C t.L i.p a).1.2.2 = 0) : getT i C a nx t = { t with z := { t.z with pc := nx, st := if (gets C t.L i.p a).1.2.1 = true then push 1 (push (gets C t.L i.p a).1.1 t.z.st) else push 0 t.z.st }, L := (gets C t.L i.p a).2, e := false } := if_pos h
theorem getT_no {i : Im} {C : List Tri} {a nx : Int} {t : T} (h : (gets C t.L i.p a).1.2.2 ≠ 0) : getT i C a nx t = { failT 15 t with L := (gets C t.L i.p a).2 } := if_neg h
theorem fail_t {r d : R} {f : Int} {k : Nat} (h1 : d.v.ft = f) (h0 : f ≠ 0) (h2 : d.L = r.L) (h3 : d.sn = r.sn) (h4 : d.cf = r.cf) : (if d.v.ft ≠ 0 then ({ d with v := { r.v with ft := d.v.ft }, e := true } : R) else d).t k = failT f (r.t k) := by
  rw [if_pos (by rw [h1]; exact h0), h1]
  unfold failT R.t
  dsimp only
  rw [h2, h3, h4]
  rfl
theorem good_t {r d : R} {k : Nat} (h1 : d.v.ft = 0) : (if d.v.ft ≠ 0 then ({ d with v := { r.v with ft := d.v.ft }, e := true } : R) else d).t k = d.t k := by
  rw [if_neg (by rw [h1]; simp)]
theorem atI_bd {xs : List Nat} {pc o a : Int} {n : Nat} (h : atI xs pc = some (o, a, n)) : 0 ≤ o ∧ o ≤ 18 ∧ 0 ≤ a := by
  unfold atI at h
  split at h
  · cases h
  · have h1 := at1_n h
    refine ⟨h1.2.2.1, h1.2.2.2, ?_⟩
    revert h
    cases xs.drop pc.toNat with
    | nil => intro h; simp [at1] at h
    | cons q l =>
      intro h
      simp only [at1] at h
      split at h <;> (try contradiction)
      split at h
      · cases l with
        | nil => cases h
        | cons b l => simp only [Option.some.injEq, Prod.mk.injEq] at h; omega
      · simp only [Option.some.injEq, Prod.mk.injEq] at h; omega
/-- One instruction: the program does as the document has it. -/
theorem step_t {i : Im} {C : List Tri} {r : R} (h : r.v.ok) (hf : r.v.ft = 0) (hm : 0 ≤ i.m) : (stepV i C r).t i.m.toNat = stpT i C (r.t i.m.toNat) := by
  unfold stepV stpT
  rw [show (r.t i.m.toNat).z.pc = r.v.pc from rfl, show (r.t i.m.toNat).z.st.length = r.v.h from z_len h _]
  cases hat : atI i.xs r.v.pc with
  | none => rfl
  | some q =>
    obtain ⟨o, a, n⟩ := q
    dsimp only
    obtain ⟨ho, ho2, ha⟩ := atI_bd hat
    have hv : ({ r.v with pc := r.v.pc + n } : V).ok := h.pc _
    obtain ⟨d, hd⟩ : ∃ d, d = deedR i C o a { r with v := { r.v with pc := r.v.pc + n }, e := false } := ⟨_, rfl⟩
    rw [← hd]
    by_cases h14 : o = 14
    · subst h14
      obtain ⟨k1, k2⟩ := sndR_t (i := i) (C := C) (a := a) (r := { r with v := { r.v with pc := r.v.pc + n }, e := false }) hv hf rfl
      rw [show deedR i C 14 a = sndR i C a from by funext x; unfold deedR; rw [if_neg (by omega), if_pos rfl]] at hd
      rw [← hd] at k1 k2
      by_cases hq : flt i r.v.h 14 a = 0
      · obtain ⟨k3, k4⟩ := k2 hq
        by_cases hs : (snds C r.L i.p a (top (r.v.z i.m.toNat).st)).1.2 = 0
        · obtain ⟨e1, e2⟩ := k4 hs
          refine (good_t (r := r) e1).trans (e2.trans ?_)
          rw [if_neg (fun hh => hh hq), if_pos rfl]
          exact (sndT_yes hs).trans (sndT_yes (t := r.t i.m.toNat) hs).symm
        · obtain ⟨e1, e2, e3, e4⟩ := k3 hs
          refine (fail_t (r := r) e1 (by decide) e2 e3 e4).trans ?_
          rw [if_neg (fun hh => hh hq), if_pos rfl]
          exact ((sndT_no (t := r.t i.m.toNat) hs).trans (by rw [show (snds C (r.t i.m.toNat).L i.p a (top (r.t i.m.toNat).z.st)).2 = r.L from snds_refuse hs]; rfl)).symm
      · obtain ⟨e1, e2, e3, e4⟩ := k1 hq
        refine (fail_t (r := r) e1 hq e2 e3 e4).trans ?_
        rw [if_pos hq]
    · by_cases h15 : o = 15
      · subst h15
        obtain ⟨k1, k2⟩ := getR_t (i := i) (C := C) (a := a) (r := { r with v := { r.v with pc := r.v.pc + n }, e := false }) hv hf rfl
        rw [show deedR i C 15 a = getR i C a from by funext x; unfold deedR; rw [if_neg (by omega), if_neg (by omega), if_pos rfl]] at hd
        rw [← hd] at k1 k2
        by_cases hq : flt i r.v.h 15 a = 0
        · obtain ⟨k3, k4⟩ := k2 hq
          by_cases hs : (gets C r.L i.p a).1.2.2 = 0
          · obtain ⟨e1, e2⟩ := k4 hs
            refine (good_t (r := r) e1).trans (e2.trans ?_)
            rw [if_neg (fun hh => hh hq), if_neg h14, if_pos rfl]
            exact (getT_yes hs).trans (getT_yes (t := r.t i.m.toNat) hs).symm
          · obtain ⟨e1, e2, e3, e4⟩ := k3 hs
            refine (fail_t (r := r) e1 (by decide) e2 e3 e4).trans ?_
            rw [if_neg (fun hh => hh hq), if_neg h14, if_pos rfl]
            exact ((getT_no (t := r.t i.m.toNat) hs).trans (by rw [show (gets C (r.t i.m.toNat).L i.p a).2 = r.L from gets_refuse hs]; rfl)).symm
        · obtain ⟨e1, e2, e3, e4⟩ := k1 hq
          refine (fail_t (r := r) e1 hq e2 e3 e4).trans ?_
          rw [if_pos hq]
      · obtain ⟨k1, k2⟩ := deed_z (i := i) (v := { r.v with pc := r.v.pc + n }) hv hf hm (o := o) (a := a) ⟨ho, ho2⟩ h14 h15 ha
        have key : d = ⟨deed i o a { r.v with pc := r.v.pc + n }, r.L, r.sn, r.cf || decide (o = 16), decide (o = 0)⟩ := by
          rw [hd]
          unfold deedR
          by_cases h0 : o = 0
          · subst h0
            rw [if_pos rfl]
            simp [deed]
          · rw [if_neg h0, if_neg h14, if_neg h15]
            by_cases h16 : o = 16
            · subst h16
              rw [if_pos rfl]
              simp [deed]
            · rw [if_neg h16]
              simp [h0, h16]
        by_cases hq : flt i r.v.h o a = 0
        · have e2 := k2 hq
          have e1 : (deed i o a { r.v with pc := r.v.pc + n }).ft = 0 := (congrArg Z.ft e2).trans hf
          refine (good_t (r := r) (by rw [key]; exact e1)).trans ?_
          rw [if_neg (fun hh => hh hq), if_neg h14, if_neg h15, key]
          unfold R.t
          dsimp only
          rw [e2]
          rfl
        · have e1 : (deed i o a { r.v with pc := r.v.pc + n }).ft = flt i r.v.h o a := k1 hq
          have h16 : o ≠ 16 := fun hh => by
            subst hh
            apply hq
            have h8 := h.h8
            simp [flt, takes, lays]
            omega
          refine (fail_t (r := r) (by rw [key]; exact e1) hq (by rw [key]) (by rw [key]) (by rw [key, decide_eq_false h16]; simp)).trans ?_
          rw [if_pos hq]
end Go.Proofs.Ytegnehdfedfphaa.VmcF
namespace Go.Proofs.Ytegnehdfedfphaa.OpsN
open Go.RowKit Go.Proofs.Ytegnehdfedfphaa.Kit Go.Proofs.Ytegnehdfedfphaa.Byt Go.Proofs.Ytegnehdfedfphaa.Mem Go.Proofs.Ytegnehdfedfphaa.OpsM Go.Proofs.Ytegnehdfedfphaa.OpsA

set_option maxRecDepth 100000 in
theorem takes_any (o : Int) (w : World) : Calls Try.prog 54 #[.int .i64 o] w fun e w' => e = .returned (.bool (hasA o)) ∧ w = w' := by
  by_cases h : o = 1 ∨ 10 ≤ o ∧ o ≤ 15
  · have HE := hasA_yes h
    have : o = 1 ∨ o = 10 ∨ o = 11 ∨ o = 12 ∨ o = 13 ∨ o = 14 ∨ o = 15 := by omega
    clear h
    rcases this with rfl | rfl | rfl | rfl | rfl | rfl | rfl
    all_goals
      go_enter Try.func54, Try.ntmps54
      go_wp2
      go_ret
      exact ⟨rfl, rfl⟩
  · have HE := Lib.hid (hasA_no h)
    have e1 : (o == 1) = false := by rw [beq_eq_false_iff_ne]; omega
    have e2 : (o == 10) = false := by rw [beq_eq_false_iff_ne]; omega
    have e3 : (o == 11) = false := by rw [beq_eq_false_iff_ne]; omega
    have e4 : (o == 12) = false := by rw [beq_eq_false_iff_ne]; omega
    have e5 : (o == 13) = false := by rw [beq_eq_false_iff_ne]; omega
    have e6 : (o == 14) = false := by rw [beq_eq_false_iff_ne]; omega
    have e7 : (o == 15) = false := by rw [beq_eq_false_iff_ne]; omega
    clear h
    go_enter Try.func54, Try.ntmps54
    go_wp2
    go_ret
    exact ⟨ret_bool HE.out.symm, rfl⟩
def kn (o : Int) : Bool := decide (0 ≤ o ∧ o ≤ 18)
set_option maxRecDepth 100000 in
theorem known_any (o : Int) (w : World) : Calls Try.prog 53 #[.int .i64 o] w fun e w' => e = .returned (.bool (kn o)) ∧ w = w' := by
  by_cases h : 0 ≤ o
  · go_enter Try.func53, Try.ntmps53
    go_wp2
    go_ret
    exact ⟨ret_bool (by rw [Bool.eq_iff_iff]; simp [kn]; omega), rfl⟩
  · go_enter Try.func53, Try.ntmps53
    go_wp2
    go_ret
    exact ⟨ret_bool (by rw [Bool.eq_iff_iff]; simp [kn]; omega), rfl⟩
end Go.Proofs.Ytegnehdfedfphaa.OpsN
namespace Go.Proofs.Ytegnehdfedfphaa.OpsN
open Go.RowKit Go.Proofs.Ytegnehdfedfphaa.Kit Go.Proofs.Ytegnehdfedfphaa.Byt Go.Proofs.Ytegnehdfedfphaa.Mem Go.Proofs.Ytegnehdfedfphaa.OpsM Go.Proofs.Ytegnehdfedfphaa.OpsA

set_option maxRecDepth 100000 in
set_option maxHeartbeats 1600000 in
theorem at_any (A : Option Addr) (n c : Nat) (xs : List Nat) (pc : Int) (w : World) (hr : Rd w A n c (u8n xs)) (hx : ∀ b ∈ xs, b < 256) (hp : n64 pc) : Calls Try.prog 43 #[.slice A n c, .int .i64 pc] w (Finds w pc (atI xs pc)) := by
  obtain rfl := Rd.nats hr
  have hle : xs.length ≤ 9223372036854775807 := by have := hr.le; have := hr.cap; omega
  obtain ⟨hp1, hp2⟩ := hp
  have HB := Lib.hid (fun (G : Array Value) => (Below.refl w.heap.size w).alloc (Nat.le_refl _) (.cells G 106))
  by_cases h1 : pc < 0
  · have HE := Lib.hid (show atI xs pc = none from if_pos h1)
    go_enter Try.func43, Try.ntmps43
    go_wp2
    refine bodyPost_ret (v := .tuple #[.agg #[.int .i64 0, .int .i64 0], .int .i64 0, .int .i64 19]) (by simp [results, Try.results43, go_sem]) rfl ?_
    exact ⟨by rw [HE.out]; rfl, HB.out _⟩
  · obtain ⟨k, rfl⟩ : ∃ k : Nat, pc = k := ⟨pc.toNat, by omega⟩
    by_cases h2 : (k : Int) < xs.length
    · have hk : k < xs.length := by omega
      obtain ⟨b, hb⟩ : ∃ b, b = xs[k] := ⟨_, rfl⟩
      have hb256 := hx _ (List.getElem_mem hk)
      obtain ⟨bx, ox, rfl, gx⟩ := Rd.nat hr hk
      rw [← hb] at gx hb256
      have gx2 : (w.alloc (.cells #[.int .i64 0, .int .i64 0] 106)).cell? ⟨bx, ox + k, none⟩ = some (.int .u8 (b : Nat)) := ((HB.out _).cell (p := ⟨bx, ox + k, none⟩) (block_lt_of_cell gx)).trans gx
      have hnk : decide (xs.length ≤ k) = false := by simp; omega
      have hnk2 : ¬ (xs.length : Int) ≤ k := by omega
      have hdr : xs.drop k = b :: xs.drop (k + 1) := by rw [hb]; exact List.drop_eq_getElem_cons hk
      by_cases h3 : b ≤ 18
      · have hkn : kn (b : Int) = true := decide_eq_true (by omega)
        have HK := Lib.hid (fun w' => hkn ▸ known_any (b : Int) w')
        clear hkn
        cases hh : hasA b
        · have HE := Lib.hid (show atI xs k = some ((b : Int), 0, 1) from by rw [atI, if_neg h1, Int.toNat_natCast, hdr]; exact (if_neg (by omega)).trans (if_neg (by rw [hh]; simp)))
          have HT := Lib.hid (fun w' => hh ▸ takes_any b w')
          clear hh hdr hb hr hx
          go_enter Try.func43, Try.ntmps43
          go_wp2_with (first
            | (go_at_call 53; refine (HK.out _).mono ?_; rintro e w' ⟨rfl, rfl⟩)
            | (go_at_call 54; refine (HT.out _).mono ?_; rintro e w' ⟨rfl, rfl⟩))
          refine bodyPost_ret (v := .tuple #[.agg #[.int .i64 (b : Int), .int .i64 0], .int .i64 ((k : Int) + 1), .int .i64 0]) (by simp [results, Try.results43, go_sem]) rfl ?_
          exact ⟨by rw [HE.out]; rfl, HB.out _⟩
        · have HT := Lib.hid (fun w' => hh ▸ takes_any b w')
          by_cases h5 : (k : Int) + 1 = xs.length
          · have HE := Lib.hid (show atI xs k = none from by rw [atI, if_neg h1, Int.toNat_natCast, hdr, List.drop_eq_nil_of_le (show xs.length ≤ k + 1 from by omega)]; exact (if_neg (by omega)).trans (if_pos hh))
            have h5' : ((k : Int) + 1 == (xs.length : Int)) = true := by rw [beq_iff_eq]; exact h5
            clear hh hdr hb hr hx
            go_enter Try.func43, Try.ntmps43
            go_wp2_with (first
              | (go_at_call 53; refine (HK.out _).mono ?_; rintro e w' ⟨rfl, rfl⟩)
              | (go_at_call 54; refine (HT.out _).mono ?_; rintro e w' ⟨rfl, rfl⟩))
            refine bodyPost_ret (v := .tuple #[.agg #[.int .i64 0, .int .i64 0], .int .i64 0, .int .i64 19]) (by simp [results, Try.results43, go_sem]) rfl ?_
            exact ⟨by rw [HE.out]; rfl, HB.out _⟩
          · have hk5 : k + 1 < xs.length := by omega
            obtain ⟨d, hd⟩ : ∃ d, d = xs[k + 1] := ⟨_, rfl⟩
            have hd256 := hx _ (List.getElem_mem hk5)
            obtain ⟨bx', ox', hA, gy⟩ := Rd.nat hr hk5
            rw [← hd] at gy hd256
            simp only [Option.some.injEq, Addr.mk.injEq, and_true] at hA
            obtain ⟨rfl, rfl⟩ := hA
            have gy2 := ((HB.out #[.int .i64 0, .int .i64 0]).cell (p := ⟨bx, ox + (k + 1), none⟩) (block_lt_of_cell gy)).trans gy
            have gy3 : (w.alloc (.cells #[.int .i64 0, .int .i64 0] 106)).cell? ⟨bx, ox + k + 1, none⟩ = some (.int .u8 (d : Nat)) := gy2
            have h5' : ((k : Int) + 1 == (xs.length : Int)) = false := by rw [beq_eq_false_iff_ne]; exact h5
            have h5l : (k : Int) + 1 < (xs.length : Int) := by omega
            have hdr5 : xs.drop (k + 1) = d :: xs.drop (k + 1 + 1) := by rw [hd]; exact List.drop_eq_getElem_cons hk5
            have HE := Lib.hid (show atI xs k = some ((b : Int), (d : Int), 2) from by rw [atI, if_neg h1, Int.toNat_natCast, hdr, hdr5]; exact (if_neg (by omega)).trans (if_pos hh))
            clear hh hdr hdr5 hb hd hr hx
            go_enter Try.func43, Try.ntmps43
            go_wp2_with (first
              | (go_at_call 53; refine (HK.out _).mono ?_; rintro e w' ⟨rfl, rfl⟩)
              | (go_at_call 54; refine (HT.out _).mono ?_; rintro e w' ⟨rfl, rfl⟩))
            refine bodyPost_ret (v := .tuple #[.agg #[.int .i64 (b : Int), .int .i64 (d : Int)], .int .i64 ((k : Int) + 2), .int .i64 0]) (by simp [results, Try.results43, go_sem]) rfl ?_
            exact ⟨by rw [HE.out]; rfl, HB.out _⟩
      · have HE := Lib.hid (show atI xs k = none from by rw [atI, if_neg h1, Int.toNat_natCast, hdr]; exact if_pos (by omega))
        have hkn : kn (b : Int) = false := decide_eq_false (by omega)
        have HK := Lib.hid (fun w' => hkn ▸ known_any (b : Int) w')
        clear hkn
        clear hdr hb hr hx
        go_enter Try.func43, Try.ntmps43
        go_wp2_with (first
          | (go_at_call 53; refine (HK.out _).mono ?_; rintro e w' ⟨rfl, rfl⟩)
          | fail)
        refine bodyPost_ret (v := .tuple #[.agg #[.int .i64 0, .int .i64 0], .int .i64 0, .int .i64 19]) (by simp [results, Try.results43, go_sem]) rfl ?_
        exact ⟨by rw [HE.out]; rfl, HB.out _⟩
    · have HE := Lib.hid (show atI xs k = none from by rw [atI, if_neg h1, List.drop_eq_nil_of_le (by omega)]; rfl)
      have hnk2 : (xs.length : Int) ≤ k := by omega
      go_enter Try.func43, Try.ntmps43
      go_wp2
      refine bodyPost_ret (v := .tuple #[.agg #[.int .i64 0, .int .i64 0], .int .i64 0, .int .i64 19]) (by simp [results, Try.results43, go_sem]) rfl ?_
      exact ⟨by rw [HE.out]; rfl, HB.out _⟩
end Go.Proofs.Ytegnehdfedfphaa.OpsN
namespace Go.Proofs.Ytegnehdfedfphaa.OpsN
open Go.RowKit Go.Proofs.Ytegnehdfedfphaa.Kit Go.Proofs.Ytegnehdfedfphaa.Byt Go.Proofs.Ytegnehdfedfphaa.Mem Go.Proofs.Ytegnehdfedfphaa.OpsM Go.Proofs.Ytegnehdfedfphaa.OpsA

def pcs (p : Int × Int) : List Value := [.int .i64 p.1, .int .i64 p.2]
theorem pcs_at : ∀ (R : List (Int × Int)) (j : Nat) (p : Int × Int), R[j]? = some p → (R.flatMap pcs)[j * 2]? = some (.int .i64 p.1) ∧ (R.flatMap pcs)[j * 2 + 1]? = some (.int .i64 p.2) := by
  intro R
  induction R with
  | nil => intro j p hj; simp at hj
  | cons q R ih =>
    intro j p hj
    cases j with
    | zero => simp only [List.getElem?_cons_zero, Option.some.injEq] at hj; subst hj; exact ⟨rfl, rfl⟩
    | succ j =>
      rw [List.getElem?_cons_succ] at hj
      have := ih j p hj
      rw [List.flatMap_cons, show (j + 1) * 2 = j * 2 + 2 from by omega]
      exact this
theorem pcs_len (R : List (Int × Int)) : (R.flatMap pcs).length = R.length * 2 := by
  induction R with
  | nil => rfl
  | cons p R ih =>
    rw [List.flatMap_cons, List.length_append, ih, List.length_cons]
    show 2 + R.length * 2 = _
    omega
theorem Prs.own {w : World} {base : Nat} {e : TypeId} {A : Option Addr} {n c : Nat} {R : List (Int × Int)} (h : w.ownsRow base e 2 (.slice A n c) n (R.flatMap pcs)) (hR : ∀ p ∈ R, n64 p.1 ∧ n64 p.2) : Prs w A n c R := by
  have hl : R.length = n := by have := h.1; rw [pcs_len] at this; omega
  rcases h.2 with ⟨hv, h0⟩ | ⟨g, cap', cur, hv, _, hh, hnc, hcm, hcs, htk⟩
  · simp only [Value.slice.injEq] at hv
    obtain ⟨rfl, rfl, rfl⟩ := hv
    exact ⟨hl, by omega, by omega, hR, fun h => by omega⟩
  · simp only [Value.slice.injEq] at hv
    obtain ⟨rfl, _, rfl⟩ := hv
    unfold maxLen at hcm
    have hcell : ∀ i u, (R.flatMap pcs)[i]? = some u → w.cell? ⟨g, 0 + i, none⟩ = some u := by
      intro i u hu
      rw [← htk, List.getElem?_take] at hu
      split at hu
      · rw [Nat.zero_add]
        have h3 : cur.toList.toArray = cur := by simp
        exact (show Blk w g e cur.toList from by unfold Blk; rw [h3]; exact hh).cell hu
      · cases hu
    refine ⟨hl, by omega, by omega, hR, fun _ => ⟨g, 0, rfl, lt_of_block hh, fun j p hj => ?_⟩⟩
    obtain ⟨h1, h2⟩ := pcs_at R j p hj
    exact ⟨hcell _ _ h1, by have := hcell _ _ h2; rw [← Nat.add_assoc] at this; exact this⟩
theorem at1_b {x : List Nat} {o a : Int} {n : Nat} (hx : ∀ b ∈ x, b < 256) (h : at1 x = some (o, a, n)) : 0 ≤ a ∧ a < 256 := by
  match x with
  | [] => simp [at1] at h
  | [q] =>
    simp only [at1] at h
    split at h <;> (try contradiction)
    split at h <;> (try contradiction)
    simp only [Option.some.injEq, Prod.mk.injEq] at h
    omega
  | q :: b :: r =>
    have := hx b (by simp)
    simp only [at1] at h
    split at h <;> (try contradiction)
    split at h <;> simp only [Option.some.injEq, Prod.mk.injEq] at h <;> omega
theorem info_ins : (Try.prog.info? 106).map (fun i => (i.zero, i.size, i.bytes)) = some (some (.agg #[.int .i64 0, .int .i64 0]), 2, 16) := by kernel_rfl
theorem one_pcs (p : Int × Int) : ∀ u ∈ pcs p, u.oneCell' = true := by
  intro u hu
  simp only [pcs, List.mem_cons, List.not_mem_nil, or_false] at hu
  rcases hu with rfl | rfl <;> rfl
section
variable {P : Program} {ops : Array Oper} {rest : List Oper} {o : Oper} {a : Act} {w : World} {Q : Exit → Act → World → Prop}
theorem wpList_append_at (hgd : o.guard = none) (s x : Operand) (t : TypeId)
    (ho : o.op = .call { callee := .builtin .append, args := #[s, x], argTypes := #[t, t] })
    (base : Nat) (e : TypeId) (i : TypeInfo) (z : Value) (size bytes : Nat) (ht : P.underlying t = some (.slice e)) (hi : P.info? e = some i) (hz : i.zero = some z)
    (hsize : i.size = size) (hby : i.bytes = bytes) (hzs : z.cells.size = size) (hsz : 0 < size)
    (v : Value) (n : Nat) (xs : List Value) (hs : a.eval s = v) (hown : w.ownsRow base e size v n xs)
    (ad : Addr) (m c : Nat) (news : List Value) (hx : a.eval x = .slice (some ad) m c) (hl : news.length = m * size) (hnews : ∀ j u, news[j]? = some u → w.cell? (ad.add j) = some u) (h1 : ∀ u ∈ news, u.oneCell' = true)
    (h63 : n + m ≤ maxLen) (hbytes : (n + m) * bytes ≤ 140737488355328) (hbase : base ≤ w.heap.size)
    (h : ∀ A' n' c' w', Hid (n' = n + m) → Hid (w'.ownsRow base e size (.slice A' n' c') n' (xs ++ news)) → w.grownBy w' v.ownBlock → Hid ((Value.slice A' n' c').ownBlock = v.ownBlock ∨ (Value.slice A' n' c').ownBlock = some w.heap.size) → wpList P ops Q rest (a.put o.dst (.slice A' n' c')) w') : wpList P ops Q (o :: rest) a w :=
  wpList_plain hgd fun _ hK => wp_append_at s x t ho base e i z size bytes ht hi hz hsize hby hzs hsz v n xs hs hown ad m c news hx hl hnews h1 h63 hbytes hbase fun A' n' c' w' h2 h3 h4 h5 => hK _ _ (h A' n' c' w' h2 h3 h4 h5)
end
theorem new_pcs (w : World) (T : TypeId) (p : Int × Int) : ∀ j u, (pcs p)[j]? = some u → (w.alloc (.cells #[.int .i64 p.1, .int .i64 p.2] T)).cell? ((⟨w.heap.size, 0, none⟩ : Addr).add j) = some u := fun j u hu => by
  rw [Addr.add_lit, Nat.zero_add]
  exact (Blk.new w T (pcs p)).cell hu
theorem below_addW {w0 w w' : World} {v : Value} {base size : Nat} {e : TypeId} {n : Nat} {xs : List Value} (hb : Below w0.heap.size w0 w) (hown : w.ownsRow base e size v n xs) (hbase : w0.heap.size ≤ base) (hg : w.grownBy w' v.ownBlock) : Below w0.heap.size w0 w' :=
  hb.grown hg hb.size fun k hk => by have := hown.lt k hk; omega
theorem own_belowW {w w' : World} {v : Value} {base size : Nat} {e : TypeId} {n : Nat} {xs : List Value} (h : w.ownsRow base e size v n xs) (hb : Below w.heap.size w w') : w'.ownsRow base e size v n xs :=
  h.kept (row := none) ⟨hb.os, hb.tape, hb.output, hb.size, fun k hk _ => hb.block k hk⟩ (by
    rcases hv : v.ownBlock with _ | g
    · exact .inl rfl
    · exact .inr (by simp))
end Go.Proofs.Ytegnehdfedfphaa.OpsN
namespace Go.Proofs.Ytegnehdfedfphaa.VmcG
open Go.RowKit Go.Proofs.Ytegnehdfedfphaa.Kit Go.Proofs.Ytegnehdfedfphaa.Byt Go.Proofs.Ytegnehdfedfphaa.Mem Go.Proofs.Ytegnehdfedfphaa.VmcM Go.Proofs.Ytegnehdfedfphaa.VmcA Go.Proofs.Ytegnehdfedfphaa.VmcB Go.Proofs.Ytegnehdfedfphaa.VmcD Go.Proofs.Ytegnehdfedfphaa.VmcE Go.Proofs.Ytegnehdfedfphaa.VmcF Go.Proofs.Ytegnehdfedfphaa.PrtM Go.Proofs.Ytegnehdfedfphaa.PrtA Go.Proofs.Ytegnehdfedfphaa.PrtD Go.Proofs.Ytegnehdfedfphaa.PrtE
open Go.Proofs.Ytegnehdfedfphaa.ImgA (Im)
open Go.Proofs.Ytegnehdfedfphaa.TabA (Tri)
open Go.Proofs.Ytegnehdfedfphaa.BitM (hb)

theorem info_sent : (Try.prog.info? 78).map (fun i => (i.zero, i.size, i.bytes)) = some (some (.agg #[.int .i64 0, .int .i64 0]), 2, 16) := by kernel_rfl
/-- What is told, in its box: the messages' rows besides. -/
structure Ob (B : Nat) (w : World) (ρ : Nat → Lab) (ob : Nat) (A : Option Addr) (n c : Nat) (sn : List (Int × Int)) (cf : Bool) : Prop where
  blk : Blk w ob 51 [.slice A n c, .bool cf]
  lo : ρ ob = .own 2
  own : w.ownsRow B 78 2 (.slice A n c) n (sn.flatMap OpsN.pcs)
  row : ∀ g, (Value.slice A n c).ownBlock = some g → ρ g = .own 3
/-- What the program's machine may touch. -/
def Vm (l : Lab) : Prop := Prog l ∨ l = .own 2 ∨ l = .own 3 ∨ l = .own 4
structure Wk (B : Nat) (w : World) (ρ : Nat → Lab) (b : Nat) (i : Im) (ob S : Nat) (A : Option Addr) (n c : Nat) (Q : Nat → Nat) (C : List Tri) (r : R) : Prop where
  chs : Chs B w ρ S A n c Q C r.L
  wb : Wb w b r.v i (pv S) ob r.e
  lb : ρ b = .own 4
  ok : r.v.ok
  out : ∃ A1 n1 c1, Ob B w ρ ob A1 n1 c1 r.sn r.cf
section
variable {F : Lab → Prop} {B S n c n1 c1 b ob : Nat} {w w' : World} {ρ ρ' : Nat → Lab} {A A1 : Option Addr} {Q : Nat → Nat} {C : List Tri} {L L' : Nat → List Int} {i : Im} {r : R} {sn : List (Int × Int)} {cf f : Bool} {u : V} {v rv : Value} {e en : Ending}
theorem Ob.carry (h : Ob B w ρ ob A1 n1 c1 sn cf) (hs : Stp F w ρ w' ρ') (h2 : ¬ F (.own 2)) (h3 : ¬ F (.own 3)) : Ob B w' ρ' ob A1 n1 c1 sn cf where
  blk := hs.keep.blk h.blk (by rw [h.lo]; exact h2)
  lo := by rw [hs.old ob h.blk.lt]; exact h.lo
  own := hs.keep.own h.own fun g hg hf => h3 (h.row g hg ▸ hf)
  row := fun g hg => by rw [hs.old g (h.own.lt g hg).2]; exact h.row g hg
theorem stp_set (hbd : Bd B w ρ) (hk : Keep (fun i => F (ρ i)) w w') : Stp F w ρ w' ρ := ⟨hk, fun _ _ => rfl, fun i hi => .inl (Classical.byContradiction fun hn => by have := (hbd i hn).2; omega)⟩
/-- Only the work's own block has changed. -/
theorem Wk.did (h : Wk B w ρ b i ob S A n c Q C r) (hd : Did b i (pv S) ob w rv u f en w') (hu : u.ok) : en = .returned rv ∧ Wk B w' ρ b i ob S A n c Q C { r with v := u, e := f } ∧ Stp Vm w ρ w' ρ := by
  obtain ⟨h1, h2, h3⟩ := hd
  have hs : Stp (fun l => l = .own 4) w ρ w' ρ := stp_set h.chs.bd (Keep.only h3 h.lb)
  obtain ⟨A1, n1, c1, ho⟩ := h.out
  exact ⟨h1, ⟨h.chs.carry hs (fun e => by cases e) (fun e => by cases e) (fun k e => by cases e) (fun k e => by cases e), h2, h.lb, hu, A1, n1, c1, ho.carry hs (fun e => by injection e with e; omega) (fun e => by injection e with e; omega)⟩, hs.mono fun l hl => .inr (.inr (.inr hl))⟩
/-- Behind a call of the ports. -/
theorem Wk.port (h : Wk B w ρ b i ob S A n c Q C r) (H : Lft B w ρ S A n c Q C L' v e w') : e = .returned v ∧ ∃ ρ', Wk B w' ρ' b i ob S A n c Q C { r with L := L' } ∧ Stp Vm w ρ w' ρ' := by
  obtain ⟨he, ρ', h1, h2⟩ := H
  obtain ⟨A1, n1, c1, ho⟩ := h.out
  exact ⟨he, ρ', ⟨h1, h2.keep.blk h.wb (by rw [h.lb]; exact id), by rw [h2.old b (Blk.lt h.wb)]; exact h.lb, h.ok, A1, n1, c1, ho.carry h2 id id⟩, h2.mono fun l hl => .inl hl⟩
theorem Wk.below (h : Wk B w ρ b i ob S A n c Q C r) (hb : Below w.heap.size w w') : Wk B w' ρ b i ob S A n c Q C r := by
  obtain ⟨A1, n1, c1, ho⟩ := h.out
  have hs : Stp (fun _ => False) w ρ w' ρ := Stp.of_below h.chs.bd hb
  exact ⟨h.chs.below hb, Blk.below h.wb hb, h.lb, h.ok, A1, n1, c1, ho.carry hs id id⟩
/-- A deed's end. -/
def Deeds (B : Nat) (w : World) (ρ : Nat → Lab) (b : Nat) (i : Im) (ob S : Nat) (A : Option Addr) (n c : Nat) (Q : Nat → Nat) (C : List Tri) (r : R) (en : Ending) (w' : World) : Prop := en = .returned (.tuple #[]) ∧ ∃ ρ', Wk B w' ρ' b i ob S A n c Q C r ∧ Stp Vm w ρ w' ρ'
theorem Wk.deed (h : Wk B w ρ b i ob S A n c Q C r) (hd : Did b i (pv S) ob w (.tuple #[]) u f en w') (hu : u.ok) : Deeds B w ρ b i ob S A n c Q C { r with v := u, e := f } en w' := by
  obtain ⟨h1, h2, h3⟩ := h.did hd hu
  exact ⟨h1, ρ, h2, h3⟩
/-- A message more is told. -/
theorem Wk.sent (h : Wk B w ρ b i ob S A n c Q C r) {A1 A2 : Option Addr} {n1 c1 n2 c2 : Nat} {p : Int × Int} {T : TypeId} {w3 : World} (ho : Ob B w ρ ob A1 n1 c1 r.sn r.cf) (_hn : n2 = n1 + 1)
    (hown : w3.ownsRow B 78 2 (.slice A2 n2 c2) n2 (r.sn.flatMap OpsN.pcs ++ OpsN.pcs p)) (hg : (w.alloc (.cells (OpsN.pcs p).toArray T)).grownBy w3 (Value.slice A1 n1 c1).ownBlock) (hat : (Value.slice A2 n2 c2).ownBlock = (Value.slice A1 n1 c1).ownBlock ∨ (Value.slice A2 n2 c2).ownBlock = some (w.alloc (.cells (OpsN.pcs p).toArray T)).heap.size) :
    ∃ ρ', Wk B (w3.setCell ⟨ob, 0, none⟩ (.slice A2 n2 c2)) ρ' b i ob S A n c Q C { r with sn := r.sn ++ [p] } ∧ Stp Vm w ρ (w3.setCell ⟨ob, 0, none⟩ (.slice A2 n2 c2)) ρ' := by
  obtain ⟨ρ', hρ⟩ : ∃ ρ' : Nat → Lab, ρ' = fun k => if (Value.slice A2 n2 c2).ownBlock = some k ∧ w.heap.size ≤ k then .own 3 else ρ k := ⟨_, rfl⟩
  have hold : ∀ k, k < w.heap.size → ρ' k = ρ k := fun k hk => by rw [hρ]; exact if_neg (fun hh => by omega)
  have hnb : ∀ k, (Value.slice A1 n1 c1).ownBlock = some k → k ≠ ob := fun k hk he => by
    have := ho.row k hk
    rw [he, ho.lo] at this
    injection this with this
    omega
  have hk1 : Keep (fun k => ρ k = .own 3) w w3 := ((Keep.of_below (F := fun k => ρ k = .own 3) ((Below.refl _ w).alloc (Nat.le_refl _) _)).trans (Keep.grown (F := fun k => (Value.slice A1 n1 c1).ownBlock = some k) hg fun _ h => h) fun k hk => .inl (ho.row k hk))
  have hk2 : Keep (fun k => ρ k = .own 3 ∨ ρ k = .own 2) w (w3.setCell ⟨ob, 0, none⟩ (.slice A2 n2 c2)) := (hk1.mono (G := fun k => ρ k = .own 3 ∨ ρ k = .own 2) fun _ _ h => .inl h).trans (Keep.set (F := fun k => k = ob) w3 0 _ rfl) fun k hk => .inl (.inr (hk ▸ ho.lo))
  have hlt3 : ∀ k, (Value.slice A2 n2 c2).ownBlock = some k → k < w3.heap.size := fun k hk => (hown.lt k hk).2
  have hs : Stp (fun l => l = .own 3 ∨ l = .own 2) w ρ (w3.setCell ⟨ob, 0, none⟩ (.slice A2 n2 c2)) ρ' := ⟨hk2, hold, fun k hk => by
    rw [hρ]
    dsimp only
    split
    · rename_i hh
      exact .inr ⟨.inl rfl, by have := hlt3 k hh.1; simpa [World.setCell] using this⟩
    · exact .inl (Classical.byContradiction fun hn => by have := (h.chs.bd _ hn).2; omega)⟩
  have hB3 : Blk w3 ob 51 [.slice A1 n1 c1, .bool r.cf] := by
    refine (hg.block ob ?_ ?_).trans (Blk.alloc ho.blk _)
    · have := ho.blk.lt; simp; omega
    · intro he; exact hnb ob he.symm rfl
  have hBs := Blk.set hB3 0 (.slice A2 n2 c2)
  refine ⟨ρ', ⟨h.chs.carry hs (fun e => by rcases e with e | e <;> cases e) (fun e => by rcases e with e | e <;> cases e) (fun k e => by rcases e with e | e <;> cases e) (fun k e => by rcases e with e | e <;> cases e),
    hs.keep.blk h.wb (by rw [h.lb]; rintro (e | e) <;> (injection e with e; omega)), by rw [hold b (Blk.lt h.wb)]; exact h.lb, h.ok, A2, n2, c2, hBs, ?_, ?_, ?_⟩, hs.mono fun l hl => by rcases hl with hl | hl; exact .inr (.inr (.inl hl)); exact .inr (.inl hl)⟩
  · rw [hold ob ho.blk.lt]; exact ho.lo
  · have h4 : (w3.setCell ⟨ob, 0, none⟩ (.slice A2 n2 c2)).ownsRow B 78 2 (.slice A2 n2 c2) n2 (r.sn.flatMap OpsN.pcs ++ OpsN.pcs p) := (Keep.set (F := fun k => k = ob) w3 0 _ rfl).own hown fun k hk he => by
      subst he
      rcases hat with e | e
      · rw [e] at hk; exact hnb _ hk rfl
      · rw [e] at hk
        injection hk with hk
        have := ho.blk.lt
        simp at hk
        omega
    rwa [List.flatMap_append, List.flatMap_singleton]
  · intro g hg2
    rcases hat with e | e
    · have h5 := ho.row g (e ▸ hg2)
      have h6 := (ho.own.lt g (e ▸ hg2)).2
      rw [hold g h6]; exact h5
    · rw [hρ]
      refine if_pos ⟨hg2, ?_⟩
      rw [e] at hg2
      injection hg2 with hg2
      simp at hg2
      omega
end
end Go.Proofs.Ytegnehdfedfphaa.VmcG
