/- The program's Tick. Conditions: the machine and the channels lie as the facts say; the image is right; fewer than 2^60 ticks. -/
import Derived.Test.YtliiinffkcgcaaaVmcK2
import Derived.Test.YtliiinffkcgcaaaVmcN
namespace Go.Proofs.Ytliiinffkcgcaaa.VmcL
open Go.RowKit Go.Proofs.Ytliiinffkcgcaaa.Kit Go.Proofs.Ytliiinffkcgcaaa.Byt Go.Proofs.Ytliiinffkcgcaaa.Mem Go.Proofs.Ytliiinffkcgcaaa.OpsM Go.Proofs.Ytliiinffkcgcaaa.OpsA Go.Proofs.Ytliiinffkcgcaaa.VmcM Go.Proofs.Ytliiinffkcgcaaa.VmcA Go.Proofs.Ytliiinffkcgcaaa.VmcE Go.Proofs.Ytliiinffkcgcaaa.VmcF Go.Proofs.Ytliiinffkcgcaaa.VmcG Go.Proofs.Ytliiinffkcgcaaa.VmcI Go.Proofs.Ytliiinffkcgcaaa.VmcJ Go.Proofs.Ytliiinffkcgcaaa.VmcK Go.Proofs.Ytliiinffkcgcaaa.VmcN Go.Proofs.Ytliiinffkcgcaaa.PrtM Go.Proofs.Ytliiinffkcgcaaa.PrtA Go.Proofs.Ytliiinffkcgcaaa.PrtD Go.Proofs.Ytliiinffkcgcaaa.PrtE
open Go.Proofs.Ytliiinffkcgcaaa.ImgA (Im)
open Go.Proofs.Ytliiinffkcgcaaa.ImgB (right)
open Go.Proofs.Ytliiinffkcgcaaa.TabA (Tri)
open Go.Proofs.Ytliiinffkcgcaaa.BitA (i64s)
open Go.Proofs.Ytliiinffkcgcaaa.BitM (hb)
open Go.Proofs.Ytliiinffkcgcaaa.TabE (ret_row)

section
variable {B S n c M ob n1 c1 : Nat} {w : World} {ρ : Nat → Lab} {A A1 : Option Addr} {Q : Nat → Nat} {C : List Tri} {L : Nat → List Int} {i : Im} {v : V} {sn : List (Int × Int)} {cf : Bool}
theorem right_n (hi : right i) : 0 < i.n := by have := hi.2.2.2.2.2.2.2; omega
theorem right_l (h : i.ok w) (hi : right i) : i.xs.length ≤ 96 := by have := hi.2.2.2.2.2.2.2; have := h.len; omega
/-- One step, whatever stands there. -/
theorem step_any (h : Mw B w ρ M i S A n c Q C v L) (ho : Ob B w ρ ob A1 n1 c1 sn cf) (hf : v.ft = 0) (hi : right i) (hp : 0 ≤ v.pc ∧ v.pc ≤ 1000) (hsn : sn.length ≤ 100000) (e0 : Bool) :
    Calls Try.prog 32 #[.pointer (some ⟨M, 0, none⟩), pv S, .pointer (some ⟨ob, 0, none⟩)] w (Steps' B w ρ M i ob S A n c Q C (stepV i C ⟨v, L, sn, cf, e0⟩)) := by
  cases hat : atI i.xs v.pc with
  | none =>
    have e : stepV i C ⟨v, L, sn, cf, e0⟩ = ⟨{ v with ft := 19 }, L, sn, cf, true⟩ := by unfold stepV; dsimp only; rw [hat]
    rw [e]
    exact step_none h ho (right_n hi) ⟨by omega, by omega⟩ hat
  | some q =>
    obtain ⟨o, a, k⟩ := q
    obtain ⟨b1, b2, b3, b4, b5, b6⟩ := atI_b h.code.byt hat
    obtain ⟨o', rfl⟩ : ∃ o' : Nat, o = o' := ⟨o.toNat, by omega⟩
    obtain ⟨a', rfl⟩ : ∃ a' : Nat, a = a' := ⟨a.toNat, by omega⟩
    have e : stepV i C ⟨v, L, sn, cf, e0⟩ = (if (deedR i C o' a' ⟨{ v with pc := v.pc + k }, L, sn, cf, false⟩).v.ft ≠ 0 then { deedR i C o' a' ⟨{ v with pc := v.pc + k }, L, sn, cf, false⟩ with v := { v with ft := (deedR i C o' a' ⟨{ v with pc := v.pc + k }, L, sn, cf, false⟩).v.ft }, e := true } else deedR i C o' a' ⟨{ v with pc := v.pc + k }, L, sn, cf, false⟩) := by unfold stepV; dsimp only; rw [hat]
    rw [e]
    exact step_some h ho hf hi ⟨by omega, by omega⟩ hsn hat (by omega) (by omega) rfl
/-- What a tick leaves. -/
def Tks (B : Nat) (w : World) (ρ : Nat → Lab) (M : Nat) (i : Im) (S : Nat) (A : Option Addr) (n c : Nat) (Q : Nat → Nat) (C : List Tri) (r : R) (e : Ending) (w' : World) : Prop :=
  ∃ A2 n2 c2 ρ', e = .returned (.agg #[.slice A2 n2 c2, .bool r.cf]) ∧ Prs w' A2 n2 c2 r.sn ∧ (∀ b o, A2 = some ⟨b, o, none⟩ → ρ' b = .own 3) ∧ Mw B w' ρ' M i S A n c Q C r.v r.L ∧ Stp Vm0 w ρ w' ρ'
theorem size_out : (Try.prog.info? 51).map (·.size) = some 2 := by kernel_rfl
theorem mw_below {w' : World} (h : Mw B w ρ M i S A n c Q C v L) (hb : Below w.heap.size w w') : Mw B w' ρ M i S A n c Q C v L := ⟨h.chs.below hb, h.blk.below hb, h.lm, h.ok, h.code.below hb, h.lc⟩
set_option maxRecDepth 100000 in
theorem tick_stands (h : Mw B w ρ M i S A n c Q C v L) (hf : v.ft ≠ 0) : Calls Try.prog 16 #[.pointer (some ⟨M, 0, none⟩), pv S] w (Tks B w ρ M i S A n c Q C ⟨v, L, [], false, false⟩) := by
  have hMl := h.blk.lt
  have c35 := h.blk.cell (i := 35) ((mc_st i v 27).trans (sc_ft h.ok))
  obtain ⟨y, hy⟩ : ∃ y, y = v.ft := ⟨_, rfl⟩
  rw [← hy] at c35 hf
  have H := Lib.hid h
  have hb : Below w.heap.size w (w.alloc (.cells #[.slice none 0 0, .bool false] 51)) := (Below.refl _ _).alloc (Nat.le_refl _) _
  have HB := Lib.hid hb
  clear h hb hy
  go_enter Try.func16, Try.ntmps16
  go_wp2_with fail
  refine ret_row (g := w.heap.size) (cs := #[.slice none 0 0, .bool false]) Try.results16 rfl rfl (Blk.new w 51 [.slice none 0 0, .bool false]) Try.underlying51 rfl size_out ?_
  exact ⟨none, 0, 0, ρ, rfl, Prs.nil _, (fun b o h => by cases h), mw_below H.out HB.out, Stp.of_below H.out.chs.bd HB.out⟩
/-- The box of what is told, made anew. -/
theorem out_new (h : Mw B w ρ M i S A n c Q C v L) {wb : World} {gb : Nat} (hb : Below w.heap.size w wb) (hB : Blk wb gb 51 [.slice none 0 0, .bool false]) (hg : w.heap.size ≤ gb) :
    ∃ ρ', Mw B wb ρ' M i S A n c Q C v L ∧ Ob B wb ρ' gb none 0 0 [] false ∧ Stp Vm0 w ρ wb ρ' ∧ (∀ k, w.heap.size ≤ k → k ≠ gb → ρ' k = .out) := by
  have hs : Stp (fun l => l = .own 2) w ρ wb (fun k => if k = gb then .own 2 else ρ k) := ⟨Keep.of_below hb, fun k hk => if_neg (by omega), fun k hk => by
    by_cases he : k = gb
    · rw [if_pos he]; exact .inr ⟨rfl, by rw [he]; exact hB.lt⟩
    · rw [if_neg he]; exact .inl (Chs.newOut h.chs hk)⟩
  have hs0 : Stp Vm0 w ρ wb (fun k => if k = gb then .own 2 else ρ k) := hs.mono fun l hl => .inl (.inr (.inl hl))
  have hc := h.chs.carry hs (fun e => by cases e) (fun e => by cases e) (fun k e => by cases e) (fun k e => by cases e)
  have hgo : ρ gb = .out := Chs.newOut h.chs hg
  refine ⟨_, ⟨hc, h.blk.below hb, by rw [hs.old M h.blk.lt]; exact h.lm, h.ok, h.code.below hb, fun b o hA hn => ?_⟩, ⟨hB, if_pos rfl, World.ownsRow_nil wb B _ 2, (fun g hg => by cases hg)⟩, hs0, fun k hk hne => (if_neg hne).trans (Chs.newOut h.chs hk)⟩
  obtain ⟨b', o', hA', hlt, _⟩ := h.code.code.2.2.2 hn
  rw [hA'] at hA
  injection hA with hA
  injection hA with hA
  exact (if_neg (by omega)).trans (hA ▸ h.lc b' o' hA' hn)
/-- The ticks are counted, and what is told is laid where it is handed back. -/
theorem tick_end {W : World} {ρk : Nat → Lab} {rb : Nat} {x0 x1 : Value} {u : V} {L' : Nat → List Int} (h0 : Mw B w ρ M i S A n c Q C v L) (h : Mw B W ρk M i S A n c Q C u L') (ho : Ob B W ρk ob A1 n1 c1 sn cf) (hs : Stp Vm0 w ρ W ρk) (hn : 0 < i.n) (hr : Blk W rb 51 [x0, x1]) (hrl : ρk rb = .out) (hwr : w.heap.size ≤ rb) (hsn : ∀ p ∈ sn, SnOk i p)
    {W3 : World} (hW3 : W3 = ((W.setCell ⟨M, 34, none⟩ (.int .i64 (u.tk + 1))).setCell ⟨rb, 0, none⟩ (.slice A1 n1 c1)).setCell ⟨rb, 1, none⟩ (.bool cf)) :
    Blk W3 rb 51 [.slice A1 n1 c1, .bool cf] ∧ Tks B w ρ M i S A n c Q C ⟨plusV u, L', sn, cf, false⟩ (.returned (.agg #[.slice A1 n1 c1, .bool cf])) W3 := by
  obtain ⟨k1, k2, k3⟩ := Mw.put h ho hn (Below.refl _ W) (k := 26) (set_tk h.ok (u.tk + 1)) (h.ok.tk _)
  have hne : rb ≠ M := fun e => by have := h.lm; rw [← e, hrl] at this; cases this
  have hne2 : rb ≠ ob := fun e => by have := ho.lo; rw [← e, hrl] at this; cases this
  have hr1 : Blk (W.setCell ⟨M, 34, none⟩ (.int .i64 (u.tk + 1))) rb 51 [x0, x1] := hr.far hne _
  have hk : Keep (fun j => j = rb) (W.setCell ⟨M, 8 + 26, none⟩ (.int .i64 (u.tk + 1))) W3 := by
    rw [hW3]
    exact (Keep.set (F := fun j => j = rb) _ 0 _ rfl).trans (Keep.set (F := fun j => j = rb) _ 1 _ rfl) fun _ h => .inl h
  have hB3 : Blk W3 rb 51 [.slice A1 n1 c1, .bool cf] := by
    rw [hW3]
    exact (hr1.set 0 (.slice A1 n1 c1)).set 1 (.bool cf)
  have hK : Keep (fun j => ρk j = .out) (W.setCell ⟨M, 8 + 26, none⟩ (.int .i64 (u.tk + 1))) W3 := hk.mono fun j _ hj => hj ▸ hrl
  have hown : W3.ownsRow B 79 2 (.slice A1 n1 c1) n1 (sn.flatMap OpsN.pcs) := hk.own k2.own fun g hg he => by have := k2.row g hg; rw [he, hrl] at this; cases this
  have hs3 : Stp Vm0 w ρ W3 ρk := Stp.fresh (hs.trans k3) (hk.mono fun j _ hj => hj ▸ hwr)
  have hcode : i.ok W3 := ⟨hk.rd k1.code.code fun hn b o hA he => by
    obtain ⟨b', o', hA', hlt, _⟩ := h0.code.code.2.2.2 hn
    rw [hA'] at hA
    injection hA with hA
    injection hA with hA
    omega, k1.code.byt⟩
  exact ⟨hB3, A1, n1, c1, ρk, rfl, OpsN.Prs.own hown (fun p hp => by
    obtain ⟨⟨q1, q2, _⟩, q3, q4⟩ := hsn p hp
    exact ⟨⟨by omega, by omega⟩, ⟨by omega, by omega⟩⟩), fun b o hA => k2.row b (by rw [hA]; rfl), ⟨Chs.others k1.chs hK, hk.blk k1.blk (fun e => hne e.symm), k1.lm, k1.ok, hcode, k1.lc⟩, hs3⟩
set_option maxRecDepth 100000 in
set_option maxHeartbeats 1600000 in
theorem tick_goes (h : Mw B w ρ M i S A n c Q C v L) (hf : v.ft = 0) (hi : right i) (hp : 0 ≤ v.pc ∧ v.pc ≤ 1000) (ht : 0 ≤ v.tk ∧ v.tk ≤ 1000000) {G : R} (hG : G = tickV i C v L) : Calls Try.prog 16 #[.pointer (some ⟨M, 0, none⟩), pv S] w (Tks B w ρ M i S A n c Q C G) := by
  have hMl := h.blk.lt
  have hx := h.code.byt
  have hl := right_l h.code hi
  obtain ⟨wa, hwa⟩ : ∃ wa, wa = w.alloc (.cells #[.slice none 0 0, .bool false] 51) := ⟨_, rfl⟩
  obtain ⟨wb, hwb⟩ : ∃ wb, wb = wa.alloc (.cells #[.slice none 0 0, .bool false] 51) := ⟨_, rfl⟩
  have hsa : wa.heap.size = w.heap.size + 1 := by rw [hwa]; exact World.size_alloc _ _
  have hbb : Below w.heap.size w wb := by rw [hwb, hwa]; exact ((Below.refl _ _).alloc (Nat.le_refl _) _).alloc (by simp) _
  have hR : Blk wb w.heap.size 51 [.slice none 0 0, .bool false] := by rw [hwb, hwa]; exact (Blk.new w _ _).alloc _
  have hO : Blk wb (w.heap.size + 1) 51 [.slice none 0 0, .bool false] := by rw [hwb, ← hsa]; exact Blk.new wa _ _
  obtain ⟨ρ1, k1, k2, k3, k4⟩ := out_new h hbb hO (by omega)
  have c35 := h.blk.cell (i := 35) ((mc_st i v 27).trans (sc_ft h.ok))
  have c4 : w.cell? ⟨M, 4, none⟩ = some (.int .i64 i.f) := h.blk.cell (i := 4) rfl
  rw [hf] at c35
  obtain ⟨F, hF⟩ : ∃ F : Nat, i.f = F := ⟨i.f.toNat, by have := hi.2.2.2.2.1; omega⟩
  have hF32 : F ≤ 32 := by have := hi.2.2.2.2.1; omega
  rw [hF] at c4
  have hFn : i.f.toNat = F := by omega
  have hgv : G = { goV i C F ⟨v, L, [], false, false⟩ with v := plusV (goV i C F ⟨v, L, [], false, false⟩).v } := by rw [hG]; unfold tickV; rw [if_neg (fun hh => hh hf), hFn]
  have HG := Lib.hid hgv
  have HSN := Lib.hid (show (∀ p ∈ G.sn, SnOk i p) from by rw [hG]; exact (tickV_sn hx hl h.ok hp).1)
  have HTK := Lib.hid (show (goV i C F ⟨v, L, [], false, false⟩).v.tk = v.tk from (goV_ok hx hl F (r := ⟨v, L, [], false, false⟩) h.ok hp).2.2)
  have HT := Lib.hid ht
  have HI := Lib.hid hi
  have HX := Lib.hid hx
  have HL := Lib.hid hl
  have K1 := Lib.hid k1
  have K2 := Lib.hid k2
  have K3 := Lib.hid k3
  have HRB := Lib.hid (show Blk wb w.heap.size 51 [.slice none 0 0, .bool false] ∧ ρ1 w.heap.size = .out from ⟨hR, k4 _ (Nat.le_refl _) (by omega)⟩)
  have H0 := Lib.hid (show (R.mk v L [] false false).v.ft = 0 ∧ (0 ≤ v.pc ∧ v.pc ≤ 1000) from ⟨hf, hp⟩)
  have HBB := Lib.hid hbb
  have H := Lib.hid h
  have HNN := Lib.hid (right_n hi)
  clear h hf hi hp ht hG hx hl hsa hbb hR hO k1 k2 k3 k4 hF hFn hgv
  go_enter Try.func16, Try.ntmps16
  go_wp2_with fail
  rw [← hwa, ← hwb]
  clear hwa hwb
  go_loopw [23] (fun z wr => ∃ (k : Nat) (ρk : Nat → Lab) (A1 : Option Addr) (n1 c1 : Nat) (r : R), k ≤ F ∧ z = .int .i64 k ∧ Hid (Mw B wr ρk M i S A n c Q C r.v r.L) ∧ Hid (Ob B wr ρk (w.heap.size + 1) A1 n1 c1 r.sn r.cf) ∧ Hid (Stp Vm0 wb ρ1 wr ρk) ∧ Hid (r.v.ft = 0 ∧ (0 ≤ r.v.pc ∧ r.v.pc ≤ 1000) ∧ r.sn.length ≤ k ∧ goV i C (F - k) r = goV i C F ⟨v, L, [], false, false⟩)) (fun z _ => F - (intOf z).toNat)
  case atStart => exact ⟨0, ρ1, none, 0, 0, ⟨v, L, [], false, false⟩, Nat.zero_le _, rfl, K1, K2, Lib.hid (Stp.refl _ K1.out.chs.bd), Lib.hid ⟨H0.out.1, H0.out.2, Nat.le_refl _, rfl⟩⟩
  case round =>
    obtain ⟨k, ρk, A1, n1, c1, r, hk, rfl, HM, HO, HS, HI2⟩ := hrel
    by_cases hlt : k < F
    · have HST := Lib.hid (step_any HM.out HO.out HI2.out.1 HI.out HI2.out.2.1 (by have := HI2.out.2.2.1; omega) r.e)
      have HKP := Lib.hid (stepV_keeps (C := C) HX.out HL.out HI2.out.2.1)
      obtain ⟨s, hs⟩ : ∃ s, s = stepV i C r := ⟨_, rfl⟩
      have HGO := Lib.hid (show goV i C (F - k) r = if s.e = true then s else goV i C (F - (k + 1)) s from by rw [show F - k = (F - (k + 1)) + 1 by omega, goV, ← hs])
      rw [← hs] at HKP
      have HST : Hid (Calls Try.prog 32 #[.pointer (some ⟨M, 0, none⟩), pv S, .pointer (some ⟨w.heap.size + 1, 0, none⟩)] wr (Steps' B wr ρk M i (w.heap.size + 1) S A n c Q C s)) := by rw [hs]; exact HST
      clear hs
      go_wp2_with fail
      refine HST.out.mono ?_
      rintro e wq ⟨rfl, ρq, A2, n2, c2, q1, q2, q3⟩
      have HM2 := Lib.hid q1
      have HO2 := Lib.hid q2
      have HS2 := Lib.hid (HS.out.trans q3)
      clear q1 q2 q3
      cases hse : s.e
      · have HGO := Lib.hid (show goV i C (F - k) r = goV i C (F - (k + 1)) s from HGO.out.trans (if_neg (by rw [hse]; simp)))
        have HFT := Lib.hid (HKP.out.2.2.2 hse)
        clear hse
        go_wp2_with fail
        go_roundw
        case rel => exact ⟨k + 1, ρq, A2, n2, c2, s, by omega, by go_num, HM2, HO2, HS2, Lib.hid ⟨HFT.out, HKP.out.2.1, by have := HKP.out.2.2.1; have := HI2.out.2.2.1; omega, HGO.out.symm.trans HI2.out.2.2.2⟩⟩
        case measure => simp [intOf]; omega
      · have HFIN := Lib.hid (show s = goV i C F ⟨v, L, [], false, false⟩ from ((HGO.out.trans (if_pos hse)).symm).trans HI2.out.2.2.2)
        clear hse HM HO HS HST HGO HI2
        obtain ⟨r, hr⟩ : ∃ r, r = s := ⟨_, rfl⟩
        rw [← hr] at HM2 HO2 HFIN HKP
        clear hr
        have HM := HM2
        have HO := HO2
        have HS := HS2
        have HTKr := Lib.hid (show r.v.tk = v.tk from by rw [HFIN.out]; exact HTK.out)
        have HSr := Lib.hid (show ∀ p ∈ r.sn, SnOk i p from by have q := HSN.out; rw [HG.out, ← HFIN.out] at q; exact q)
        obtain ⟨WW, rfl⟩ : ∃ WW : World, WW = wq := ⟨_, rfl⟩
        obtain ⟨ρk, rfl⟩ : ∃ ρk, ρk = ρq := ⟨_, rfl⟩
        obtain ⟨A1, rfl⟩ : ∃ A1, A1 = A2 := ⟨_, rfl⟩
        obtain ⟨n1, rfl⟩ : ∃ n1, n1 = n2 := ⟨_, rfl⟩
        obtain ⟨c1, rfl⟩ : ∃ c1, c1 = c2 := ⟨_, rfl⟩
        have c34 := HM.out.blk.cell (i := 34) ((mc_st _ _ 26).trans (sc_tk HM.out.ok))
        have z34 := HM.out.blk.frozen 34
        have o0 := HO.out.blk.cell (i := 0) rfl
        have o1 := HO.out.blk.cell (i := 1) rfl
        have HRW := Lib.hid (show Blk WW w.heap.size 51 [.slice none 0 0, .bool false] ∧ ρk w.heap.size = .out from ⟨HS.out.keep.blk HRB.out.1 (by rw [HRB.out.2]; exact out_vm0), by rw [HS.out.old _ HRB.out.1.lt]; exact HRB.out.2⟩)
        have r0 := HRW.out.1.cell (i := 0) rfl
        have r1 := HRW.out.1.cell (i := 1) rfl
        have z0 := HRW.out.1.frozen 0
        have z1 := HRW.out.1.frozen 1
        obtain ⟨y, hy⟩ : ∃ y, y = r.v.tk := ⟨_, rfl⟩
        rw [← hy] at c34
        have hy1 : 0 ≤ y := by rw [hy, HTKr.out]; exact HT.out.1
        have hy2 : y ≤ 1000000 := by rw [hy, HTKr.out]; exact HT.out.2
        have HY := Lib.hid hy
        obtain ⟨cfv, hcf⟩ : ∃ cfv, cfv = r.cf := ⟨_, rfl⟩
        rw [← hcf] at o1
        have HCF := Lib.hid hcf
        clear hy hcf
        go_wp2_with fail
        have hE := tick_end (rb := w.heap.size) H.out HM.out HO.out (K3.out.trans HS.out) HNN.out HRW.out.1 HRW.out.2 (Nat.le_refl _) HSr.out (W3 := ((WW.setCell ⟨M, 34, none⟩ (.int .i64 (r.v.tk + 1))).setCell ⟨w.heap.size, 0, none⟩ (.slice A1 n1 c1)).setCell ⟨w.heap.size, 1, none⟩ (.bool r.cf)) rfl
        rw [← HY.out, ← HCF.out] at hE
        have HE := Lib.hid hE
        clear hE
        refine ret_row (g := w.heap.size) (cs := #[.slice A1 n1 c1, .bool cfv]) Try.results16 rfl rfl HE.out.1 Try.underlying51 rfl size_out ?_
        rw [HG.out, ← HFIN.out]
        have q := HE.out.2
        rw [HCF.out] at q ⊢
        exact q
    · obtain rfl : k = F := by omega
      have HFIN := Lib.hid (show r = goV i C k ⟨v, L, [], false, false⟩ from by have q := HI2.out.2.2.2; rw [Nat.sub_self] at q; exact q)
      have HTKr := Lib.hid (show r.v.tk = v.tk from by rw [HFIN.out]; exact HTK.out)
      have HSr := Lib.hid (show ∀ p ∈ r.sn, SnOk i p from by have q := HSN.out; rw [HG.out, ← HFIN.out] at q; exact q)
      obtain ⟨WW, rfl⟩ : ∃ WW : World, WW = wr := ⟨_, rfl⟩
      have c34 := HM.out.blk.cell (i := 34) ((mc_st _ _ 26).trans (sc_tk HM.out.ok))
      have z34 := HM.out.blk.frozen 34
      have o0 := HO.out.blk.cell (i := 0) rfl
      have o1 := HO.out.blk.cell (i := 1) rfl
      have HRW := Lib.hid (show Blk WW w.heap.size 51 [.slice none 0 0, .bool false] ∧ ρk w.heap.size = .out from ⟨HS.out.keep.blk HRB.out.1 (by rw [HRB.out.2]; exact out_vm0), by rw [HS.out.old _ HRB.out.1.lt]; exact HRB.out.2⟩)
      have r0 := HRW.out.1.cell (i := 0) rfl
      have r1 := HRW.out.1.cell (i := 1) rfl
      have z0 := HRW.out.1.frozen 0
      have z1 := HRW.out.1.frozen 1
      obtain ⟨y, hy⟩ : ∃ y, y = r.v.tk := ⟨_, rfl⟩
      rw [← hy] at c34
      have hy1 : 0 ≤ y := by rw [hy, HTKr.out]; exact HT.out.1
      have hy2 : y ≤ 1000000 := by rw [hy, HTKr.out]; exact HT.out.2
      have HY := Lib.hid hy
      obtain ⟨cfv, hcf⟩ : ∃ cfv, cfv = r.cf := ⟨_, rfl⟩
      rw [← hcf] at o1
      have HCF := Lib.hid hcf
      clear hy hcf
      go_wp2_with fail
      have hE := tick_end (rb := w.heap.size) H.out HM.out HO.out (K3.out.trans HS.out) HNN.out HRW.out.1 HRW.out.2 (Nat.le_refl _) HSr.out (W3 := ((WW.setCell ⟨M, 34, none⟩ (.int .i64 (r.v.tk + 1))).setCell ⟨w.heap.size, 0, none⟩ (.slice A1 n1 c1)).setCell ⟨w.heap.size, 1, none⟩ (.bool r.cf)) rfl
      rw [← HY.out, ← HCF.out] at hE
      have HE := Lib.hid hE
      clear hE
      refine ret_row (g := w.heap.size) (cs := #[.slice A1 n1 c1, .bool cfv]) Try.results16 rfl rfl HE.out.1 Try.underlying51 rfl size_out ?_
      rw [HG.out, ← HFIN.out]
      have q := HE.out.2
      rw [HCF.out] at q ⊢
      exact q
end
end Go.Proofs.Ytliiinffkcgcaaa.VmcL
