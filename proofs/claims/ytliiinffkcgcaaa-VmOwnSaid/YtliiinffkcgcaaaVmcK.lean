/- One step of the program's machine. Conditions: the machine, the channels and what is told lie as the facts say; the image is right. -/
import Derived.Test.YtliiinffkcgcaaaVmcJ
import Derived.Deep.RegionHeld3
namespace Go.Proofs.Ytliiinffkcgcaaa.VmcK
open Go.RowKit Go.Proofs.Ytliiinffkcgcaaa.Kit Go.Proofs.Ytliiinffkcgcaaa.Byt Go.Proofs.Ytliiinffkcgcaaa.Mem Go.Proofs.Ytliiinffkcgcaaa.OpsM Go.Proofs.Ytliiinffkcgcaaa.OpsA Go.Proofs.Ytliiinffkcgcaaa.VmcM Go.Proofs.Ytliiinffkcgcaaa.VmcA Go.Proofs.Ytliiinffkcgcaaa.VmcB Go.Proofs.Ytliiinffkcgcaaa.VmcC Go.Proofs.Ytliiinffkcgcaaa.VmcD Go.Proofs.Ytliiinffkcgcaaa.VmcE Go.Proofs.Ytliiinffkcgcaaa.VmcF Go.Proofs.Ytliiinffkcgcaaa.VmcG Go.Proofs.Ytliiinffkcgcaaa.VmcH Go.Proofs.Ytliiinffkcgcaaa.VmcI Go.Proofs.Ytliiinffkcgcaaa.VmcJ Go.Proofs.Ytliiinffkcgcaaa.PrtM Go.Proofs.Ytliiinffkcgcaaa.PrtA Go.Proofs.Ytliiinffkcgcaaa.PrtD Go.Proofs.Ytliiinffkcgcaaa.PrtE
open Go.Proofs.Ytliiinffkcgcaaa.ImgA (Im)
open Go.Proofs.Ytliiinffkcgcaaa.ImgB (right)
open Go.Proofs.Ytliiinffkcgcaaa.TabA (Tri)
open Go.Proofs.Ytliiinffkcgcaaa.BitA (i64s)
open Go.Proofs.Ytliiinffkcgcaaa.BitM (hb)

section
variable {B S n c M ob n1 c1 : Nat} {w W w' : World} {ρ ρ' : Nat → Lab} {A A1 : Option Addr} {Q : Nat → Nat} {C : List Tri} {L : Nat → List Int} {i : Im} {v u : V} {sn : List (Int × Int)} {cf : Bool}
theorem Mw.go {L' : Nat → List Int} (h : Mw B w ρ M i S A n c Q C v L) (hc : Chs B w' ρ' S A n c Q C L') (hs : Stp Vm0 w ρ w' ρ') (hb : Blk w' M 91 (mc i u)) (hu : u.ok) (hn : 0 < i.n) : Mw B w' ρ' M i S A n c Q C u L' := by
  obtain ⟨k1, k2⟩ := Im.ok.carry h.code hs out_vm0 h.lc
  exact ⟨hc, hb, by rw [hs.old M h.blk.lt]; exact h.lm, hu, k1, k2⟩
/-- A cell of the machine's state is written, behind what only made memory. -/
theorem Mw.put (h : Mw B w ρ M i S A n c Q C v L) (ho : Ob B w ρ ob A1 n1 c1 sn cf) (hn : 0 < i.n) (hb : Below w.heap.size w W) {k : Nat} {x : Value} (hx : (scells v).set k x = scells u) (hu : u.ok) :
    Mw B (W.setCell ⟨M, 8 + k, none⟩ x) ρ M i S A n c Q C u L ∧ Ob B (W.setCell ⟨M, 8 + k, none⟩ x) ρ ob A1 n1 c1 sn cf ∧ Stp Vm0 w ρ (W.setCell ⟨M, 8 + k, none⟩ x) ρ := by
  have hs : Stp (fun l => l = .own 0) w ρ (W.setCell ⟨M, 8 + k, none⟩ x) ρ := stp_set h.chs.bd ((Keep.of_below (F := fun k => ρ k = .own 0) hb).trans (Keep.set (F := fun j => j = M) W (8 + k) x rfl) fun j hj => .inl (hj ▸ h.lm))
  have hs0 : Stp Vm0 w ρ (W.setCell ⟨M, 8 + k, none⟩ x) ρ := hs.mono fun l hl => .inr hl
  have hB := Blk.set (h.blk.below hb) (8 + k) x
  rw [mc_set i hx] at hB
  exact ⟨Mw.go h (h.chs.carry hs (fun e => by cases e) (fun e => by cases e) (fun k e => by cases e) (fun k e => by cases e)) hs0 hB hu hn, ho.carry hs (fun e => by injection e with e; omega) (fun e => by injection e with e; omega), hs0⟩
end
/-- What a step leaves. -/
def Steps' (B : Nat) (w : World) (ρ : Nat → Lab) (M : Nat) (i : Im) (ob S : Nat) (A : Option Addr) (n c : Nat) (Q : Nat → Nat) (C : List Tri) (r : R) (e : Ending) (w' : World) : Prop :=
  e = .returned (.bool r.e) ∧ ∃ ρ' A2 n2 c2, Mw B w' ρ' M i S A n c Q C r.v r.L ∧ Ob B w' ρ' ob A2 n2 c2 r.sn r.cf ∧ Stp Vm0 w ρ w' ρ'
section
variable {B S n c M ob n1 c1 : Nat} {w : World} {ρ : Nat → Lab} {A A1 : Option Addr} {Q : Nat → Nat} {C : List Tri} {L : Nat → List Int} {i : Im} {v : V} {sn : List (Int × Int)} {cf : Bool}
set_option maxRecDepth 100000 in
set_option maxHeartbeats 3200000 in
theorem step_none (h : Mw B w ρ M i S A n c Q C v L) (ho : Ob B w ρ ob A1 n1 c1 sn cf) (hn : 0 < i.n) (hp : n64 v.pc) (hat : atI i.xs v.pc = none) :
    Calls Try.prog 32 #[.pointer (some ⟨M, 0, none⟩), pv S, .pointer (some ⟨ob, 0, none⟩)] w (Steps' B w ρ M i ob S A n c Q C ⟨{ v with ft := 19 }, L, sn, cf, true⟩) := by
  have m7 : w.cell? ⟨M, 7, none⟩ = some (.slice i.A i.n i.c) := h.blk.cell (i := 7) rfl
  have m8 : w.cell? ⟨M, 8, none⟩ = some (.int .i64 v.pc) := h.blk.cell (i := 8) ((mc_st i v 0).trans (sc_pc v))
  have hMl : M < w.heap.size := h.blk.lt
  have hne1 : ¬ M = w.heap.size := by omega
  have hne2 : ¬ w.heap.size = M := by omega
  have HAT := Lib.hid (fun w' (hb : Below w.heap.size w w') => OpsN.at_any i.A i.n i.c i.xs v.pc w' (h.code.below hb).code h.code.byt hp)
  rw [hat] at HAT
  obtain ⟨p, hp0⟩ : ∃ p, p = v.pc := ⟨_, rfl⟩
  obtain ⟨Ai, hAi⟩ : ∃ Ai, Ai = i.A := ⟨_, rfl⟩
  obtain ⟨ni, hni⟩ : ∃ ni, ni = i.n := ⟨_, rfl⟩
  obtain ⟨ci, hci⟩ : ∃ ci, ci = i.c := ⟨_, rfl⟩
  rw [← hAi, ← hni, ← hci] at m7 HAT
  rw [← hp0] at m8 HAT
  have H := Lib.hid h
  have HO := Lib.hid ho
  have hba := Lib.hid (below_ad w (.cells #[.int .i64 0, .int .i64 0] 107))
  have hbd := Lib.hid (show Below w.heap.size w w.drew from ⟨rfl, rfl, rfl, Nat.le_refl _, fun _ _ => rfl⟩)
  have HN := Lib.hid hn
  clear h ho hn hat hp hp0 hAi hni hci
  go_enter Try.func32, Try.ntmps32
  go_wp2_with fail
  go_region_held3 (fun w' => w'.cell? ⟨M, 7, none⟩ = some (.slice Ai ni ci) ∧ w'.cell? ⟨M, 8, none⟩ = some (.int .i64 p))
    (first | go_keep | exact HSe.out | exact ⟨(World.cell?_setCell_far _ _ _ _ hne2).trans ((World.cell?_setCell_far _ _ _ _ hne2).trans HSe.out.1), (World.cell?_setCell_far _ _ _ _ hne2).trans ((World.cell?_setCell_far _ _ _ _ hne2).trans HSe.out.2)⟩ | exact ⟨(World.cell?_setCell_far _ _ _ _ hne1).trans ((World.cell?_setCell_far _ _ _ _ hne1).trans HSe.out.1), (World.cell?_setCell_far _ _ _ _ hne1).trans ((World.cell?_setCell_far _ _ _ _ hne1).trans HSe.out.2)⟩)
    (first
      | (go_at_call 46; refine (HAT.out _ hbd.out).mono ?_; rintro e w2 ⟨rfl, hb2⟩; have HB2 := Lib.hid (hbd.out.trans hb2); have hM2 : M < w2.heap.size := Nat.lt_of_lt_of_le hMl HB2.out.size; have hne3 : ¬ M = w2.heap.size := Nat.ne_of_lt hM2; have hne4 : ¬ w2.heap.size = M := fun e => hne3 e.symm; have HSe := Lib.hid (show w2.cell? ⟨M, 7, none⟩ = some (.slice Ai ni ci) ∧ w2.cell? ⟨M, 8, none⟩ = some (.int .i64 p) from ⟨(HB2.out.cell (p := ⟨M, 7, none⟩) hMl).trans m7, (HB2.out.cell (p := ⟨M, 8, none⟩) hMl).trans m8⟩); clear hb2)
      | (go_at_call 46; refine (HAT.out _ hba.out).mono ?_; rintro e w2 ⟨rfl, hb2⟩; have HB2 := Lib.hid (hba.out.trans (hb2.mono hba.out.size)); have HSe := Lib.hid (show w2.cell? ⟨M, 7, none⟩ = some (.slice Ai ni ci) ∧ w2.cell? ⟨M, 8, none⟩ = some (.int .i64 p) from ⟨(HB2.out.cell (p := ⟨M, 7, none⟩) hMl).trans m7, (HB2.out.cell (p := ⟨M, 8, none⟩) hMl).trans m8⟩); have hbx := (show Blk (w.alloc (.cells #[.int .i64 0, .int .i64 0] 107)).drew w.heap.size 107 [.int .i64 0, .int .i64 0] from Blk.new w _ _).below hb2; have x0 := hbx.cell (i := 0) rfl; have x1 := hbx.cell (i := 1) rfl; have y0 := hbx.frozen 0; have y1 := hbx.frozen 1; clear hbx hb2))
  focus
    have HB3 := Lib.hid (show Below w.heap.size w (w2.alloc (.cells #[.int .i64 0, .int .i64 0] 107)) from HB2.out.alloc HB2.out.size _)
    clear hM2 hne3 hne4
  rotate_left 1
  focus
    have HB3 := Lib.hid (show Below w.heap.size w ((w2.setCell ⟨w.heap.size, 0, none⟩ (.int .i64 0)).setCell ⟨w.heap.size, 1, none⟩ (.int .i64 0)) from (HB2.out.setCell (Nat.le_refl _) _).setCell (Nat.le_refl _) _)
    clear x0 x1 y0 y1
  all_goals
    have hM3 := H.out.blk.below HB3.out
    have c35 := hM3.cell (i := 35) ((mc_st i v 27).trans (sc_ft H.out.ok))
    have z35 := hM3.frozen 35
    clear hM3 m7 m8
    go_wp2
    go_ret
    obtain ⟨k1, k2, k3⟩ := Mw.put H.out HO.out HN.out HB3.out (set_ft H.out.ok 19) (H.out.ok.ft 19)
    exact ⟨rfl, ρ, A1, n1, c1, k1, k2, k3⟩
end
end Go.Proofs.Ytliiinffkcgcaaa.VmcK
