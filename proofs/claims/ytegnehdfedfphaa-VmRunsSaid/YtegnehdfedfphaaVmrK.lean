/- The reference's Tick. Conditions: all lies as the facts say. -/
import Derived.Test.YtegnehdfedfphaaVmrJ
import Derived.Test.YtegnehdfedfphaaVmrD
import Derived.Test.YtegnehdfedfphaaJ06
import Derived.StillTailTactics
import Derived.Deep.RegionLaw
namespace Go.Proofs.Ytegnehdfedfphaa.VmrK
open Go.RowKit Go.Proofs.Ytegnehdfedfphaa.Kit Go.Proofs.Ytegnehdfedfphaa.Byt Go.Proofs.Ytegnehdfedfphaa.Mem Go.Proofs.Ytegnehdfedfphaa.OpsM Go.Proofs.Ytegnehdfedfphaa.OpsA Go.Proofs.Ytegnehdfedfphaa.VmcM Go.Proofs.Ytegnehdfedfphaa.VmcF Go.Proofs.Ytegnehdfedfphaa.VmcN Go.Proofs.Ytegnehdfedfphaa.VmrA Go.Proofs.Ytegnehdfedfphaa.VmrB Go.Proofs.Ytegnehdfedfphaa.VmrE Go.Proofs.Ytegnehdfedfphaa.VmrF Go.Proofs.Ytegnehdfedfphaa.VmrP Go.Proofs.Ytegnehdfedfphaa.VmrG Go.Proofs.Ytegnehdfedfphaa.VmrH Go.Proofs.Ytegnehdfedfphaa.VmrJ Go.Proofs.Ytegnehdfedfphaa.PrtM
open Go.Proofs.Ytegnehdfedfphaa.ImgA (Im)
open Go.Proofs.Ytegnehdfedfphaa.ImgB (right)
open Go.Proofs.Ytegnehdfedfphaa.TabA (Tri)
open Go.Proofs.Ytegnehdfedfphaa.TabI (i64s i64s_len i64s_one)
open Go.Proofs.Ytegnehdfedfphaa.PrtA (Lab Stp Bd)
open Go.Proofs.Ytegnehdfedfphaa.PrtR (Ref Rf Rft)
open Go.Proofs.Ytegnehdfedfphaa.VmrC (Fl)
open Go.Proofs.Ytegnehdfedfphaa.VmrD (fails_any)
open Go.Proofs.Ytegnehdfedfphaa.VmrI (p15_any)
open Go.Proofs.Ytegnehdfedfphaa.VmcL (right_l)
open Go.Proofs.Ytegnehdfedfphaa.TabE (ret_row)

theorem join {K P : Prop} (main : K → P) (key : K) : P := main key
section
variable {B N m d X gl nc c' : Nat} {D A' : Option Addr} {i : Im} {C : List Tri} {z : Z} {L : Nat → List Int} {w : World} {ρ : Nat → Lab}
set_option maxRecDepth 100000 in
set_option maxHeartbeats 6400000 in
theorem rtick_goes (h : Rq B w ρ N i D m d X gl A' nc c' C z L) (hf : z.ft = 0) (hi : right i) (hp : 0 ≤ z.pc ∧ z.pc ≤ 1000) (ht : 0 ≤ z.tk ∧ z.tk ≤ 1000000) {G : T} (hG : G = tickT i C z L) :
    Calls Try.prog 14 #[.pointer (some ⟨N, 0, none⟩), .pointer (some ⟨X, 0, none⟩)] w (Tkr B w ρ N i D m d X gl A' nc c' C G) := by
  have h0 := h
  obtain ⟨⟨A0, n0, c0, hrm0⟩, _, _⟩ := h0
  have hNl := hrm0.blk.lt
  have hx := hrm0.code.byt
  have hl := right_l hrm0.code hi
  have k12 := hrm0.blk.cell (i := 12) (v := .int .i64 z.ft) rfl
  rw [hf] at k12
  obtain ⟨wa, hwa⟩ : ∃ wa, wa = w.alloc (.cells #[.slice none 0 0, .bool false] 53) := ⟨_, rfl⟩
  obtain ⟨wb, hwb⟩ : ∃ wb, wb = wa.alloc (.cells #[.slice none 0 0, .bool false] 53) := ⟨_, rfl⟩
  have hsa : wa.heap.size = w.heap.size + 1 := by rw [hwa]; exact World.size_alloc _ _
  have hbb : Below w.heap.size w wb := by rw [hwb, hwa]; exact ((Below.refl _ _).alloc (Nat.le_refl _) _).alloc (by simp) _
  have hR : Blk wb w.heap.size 53 [.slice none 0 0, .bool false] := by rw [hwb, hwa]; exact (Blk.new w _ _).alloc _
  have hO : Blk wb (w.heap.size + 1) 53 [.slice none 0 0, .bool false] := by rw [hwb, ← hsa]; exact Blk.new wa _ _
  obtain ⟨ρ1, k1, k2, k3⟩ := Rq.out (rb := w.heap.size) (ob := w.heap.size + 1) h hbb rfl rfl hR hO
  obtain ⟨F, hF⟩ : ∃ F : Nat, i.f = F := ⟨i.f.toNat, by have := hi.2.2.2.2.1; omega⟩
  have hF32 : F ≤ 32 := by have := hi.2.2.2.2.1; omega
  have hFn : i.f.toNat = F := by omega
  have hgv : G = { goT i C F ⟨z, L, [], false, false⟩ with z := plusZ (goT i C F ⟨z, L, [], false, false⟩).z } := by rw [hG]; unfold tickT; rw [if_neg (fun hh => hh hf), hFn]
  have HG := Lib.hid hgv
  have HT := Lib.hid ht
  have HI := Lib.hid hi
  have HX := Lib.hid hx
  have HL := Lib.hid hl
  have HF := Lib.hid hF
  have K1 := Lib.hid k1
  have K2 := Lib.hid k2
  have HRB := Lib.hid (show Blk wb w.heap.size 53 [.slice none 0 0, .bool false] ∧ ρ1 w.heap.size = .own 14 from ⟨hR, k3⟩)
  have H0 := Lib.hid (show z.ft = 0 ∧ (0 ≤ z.pc ∧ z.pc ≤ 1000) from ⟨hf, hp⟩)
  clear h hf hi hp ht hG hx hl hsa hbb hR hO k1 k2 k3 hF hFn hgv hrm0
  go_enter Try.func14, Try.ntmps14
  go_wp2_with fail
  rw [← hwa, ← hwb]
  clear hwa hwb k12
  go_loopw [6] (fun zc wr => ∃ (k : Nat) (ρk : Nat → Lab) (t : T), k ≤ F ∧ zc = .int .i64 k ∧ Hid (Rw B wr ρk N i D m d X gl A' nc c' C (w.heap.size + 1) t.z t.L t.sn t.cf) ∧ Hid (Stp Ra wb ρ1 wr ρk) ∧ Hid (t.z.ft = 0 ∧ (0 ≤ t.z.pc ∧ t.z.pc ≤ 1000) ∧ t.z.tk = z.tk ∧ t.sn.length ≤ k ∧ goT i C (F - k) t = goT i C F ⟨z, L, [], false, false⟩)) (fun zc _ => F - (intOf zc).toNat)
  case atStart => exact ⟨0, ρ1, ⟨z, L, [], false, false⟩, Nat.zero_le _, rfl, K1, Lib.hid (Stp.refl _ K1.out.bd), Lib.hid ⟨H0.out.1, H0.out.2, rfl, Nat.le_refl _, rfl⟩⟩
  case round =>
    obtain ⟨k, ρk, t, hk, rfl, HM, HS, HI2⟩ := hrel
    obtain ⟨⟨An, n, cn, hrm⟩, _, ⟨Ao, no, co, hob⟩, _⟩ := HM.out
    have k4 : wr.cell? ⟨N, 4, none⟩ = some (.int .i64 F) := by rw [← HF.out]; exact hrm.blk.cell (i := 4) (v := .int .i64 i.f) rfl
    have hNl := hrm.blk.lt
    by_cases hlt : k < F
    · have HKP := Lib.hid (stpT_keeps (C := C) (t := t) HX.out HL.out HI2.out.2.1)
      obtain ⟨s, hs⟩ : ∃ s, s = stpT i C t := ⟨_, rfl⟩
      have HGO := Lib.hid (show goT i C (F - k) t = if s.e = true then s else goT i C (F - (k + 1)) s from by rw [show F - k = (F - (k + 1)) + 1 by omega, goT, ← hs])
      rw [← hs] at HKP
      have HAA := Lib.hid (fun (W : World) (σ : Nat → Lab) (hh : Rw B W σ N i D m d X gl A' nc c' C (w.heap.size + 1) t.z t.L t.sn t.cf) => by
        obtain ⟨⟨_, _, _, hq⟩, _, _, _⟩ := hh
        exact rat_any i.A i.n i.c i.xs t.z.pc W hq.code.code HX.out ⟨by have := HI2.out.2.1; omega, by have := HI2.out.2.1; omega⟩)
      have k7 := hrm.blk.cell (i := 7) (v := .slice i.A i.n i.c) rfl
      have k8 := hrm.blk.cell (i := 8) (v := .int .i64 t.z.pc) rfl
      have HMd := Lib.hid (show Rw B wr.drew ρk N i D m d X gl A' nc c' C (w.heap.size + 1) t.z t.L t.sn t.cf from Rw.below HM.out ⟨rfl, rfl, rfl, Nat.le_refl _, fun _ _ => rfl⟩)
      have LZ := Lib.hid (show ∀ j, wr.heap.size ≤ j → ρk j = .out from fun j hj => Classical.byContradiction fun hq => by have := (HM.out.bd j hq).2; omega)
      clear hrm hob
      obtain ⟨qo, qa, qn, qb, hqq⟩ : ∃ (qo qa qn : Int) (qb : Bool), got t.z.pc (atI i.xs t.z.pc) = .agg #[.int .i64 qo, .int .i64 qa, .int .i64 qn, .bool qb] := by
        cases atI i.xs t.z.pc with
        | none => exact ⟨_, _, _, _, rfl⟩
        | some q => exact ⟨_, _, _, _, rfl⟩
      have HGT := Lib.hid hqq
      rw [hqq] at HAA
      clear hqq
      have HA := Lib.hid (HAA.out _ _ HMd.out)
      have HZ := Lib.hid (HAA.out _ _ (Rw.below HMd.out ((Below.refl _ _).alloc (Nat.le_refl _) (.cells #[.int .i64 0, .int .i64 0, .int .i64 0, .bool false] 108))))
      have HBZ := Lib.hid (show Blk (wr.drew.alloc (.cells #[.int .i64 0, .int .i64 0, .int .i64 0, .bool false] 108)) wr.heap.size 108 [.int .i64 0, .int .i64 0, .int .i64 0, .bool false] from Blk.new wr.drew _ _)
      have HLA := Lib.hid (show ∀ w3, Below wr.drew.heap.size wr.drew w3 → Rw B (w3.alloc (.cells #[.int .i64 qo, .int .i64 qa, .int .i64 qn, .bool qb] 108)) ρk N i D m d X gl A' nc c' C (w.heap.size + 1) t.z t.L t.sn t.cf ∧ Stp Ra wr ρk (w3.alloc (.cells #[.int .i64 qo, .int .i64 qa, .int .i64 qn, .bool qb] 108)) ρk ∧ Blk (w3.alloc (.cells #[.int .i64 qo, .int .i64 qa, .int .i64 qn, .bool qb] 108)) w3.heap.size 108 [.int .i64 qo, .int .i64 qa, .int .i64 qn, .bool qb] ∧ ρk w3.heap.size = .out from fun w3 hb3 => by
        have hq := (show Below wr.heap.size wr w3 from ⟨hb3.os, hb3.tape, hb3.output, hb3.size, hb3.block⟩).alloc hb3.size (.cells #[.int .i64 qo, .int .i64 qa, .int .i64 qn, .bool qb] 108)
        exact ⟨Rw.below HM.out hq, Stp.of_below HM.out.bd hq, Blk.new w3 _ _, LZ.out _ hb3.size⟩)
      have HLZ := Lib.hid (show ∀ w3, Below (wr.drew.alloc (.cells #[.int .i64 0, .int .i64 0, .int .i64 0, .bool false] 108)).heap.size (wr.drew.alloc (.cells #[.int .i64 0, .int .i64 0, .int .i64 0, .bool false] 108)) w3 → Rw B ((((w3.setCell ⟨wr.heap.size, 0, none⟩ (.int .i64 qo)).setCell ⟨wr.heap.size, 1, none⟩ (.int .i64 qa)).setCell ⟨wr.heap.size, 2, none⟩ (.int .i64 qn)).setCell ⟨wr.heap.size, 3, none⟩ (.bool qb)) ρk N i D m d X gl A' nc c' C (w.heap.size + 1) t.z t.L t.sn t.cf ∧ Stp Ra wr ρk ((((w3.setCell ⟨wr.heap.size, 0, none⟩ (.int .i64 qo)).setCell ⟨wr.heap.size, 1, none⟩ (.int .i64 qa)).setCell ⟨wr.heap.size, 2, none⟩ (.int .i64 qn)).setCell ⟨wr.heap.size, 3, none⟩ (.bool qb)) ρk ∧ Blk ((((w3.setCell ⟨wr.heap.size, 0, none⟩ (.int .i64 qo)).setCell ⟨wr.heap.size, 1, none⟩ (.int .i64 qa)).setCell ⟨wr.heap.size, 2, none⟩ (.int .i64 qn)).setCell ⟨wr.heap.size, 3, none⟩ (.bool qb)) wr.heap.size 108 [.int .i64 qo, .int .i64 qa, .int .i64 qn, .bool qb] ∧ ρk wr.heap.size = .out from fun w3 hb3 => by
        have hbw : Below wr.heap.size wr w3 := Below.trans (show Below wr.heap.size wr (wr.drew.alloc (.cells #[.int .i64 0, .int .i64 0, .int .i64 0, .bool false] 108)) from by
          have hq := (Below.refl wr.drew.heap.size wr.drew).alloc (Nat.le_refl _) (.cells #[.int .i64 0, .int .i64 0, .int .i64 0, .bool false] 108)
          exact ⟨hq.os, hq.tape, hq.output, hq.size, hq.block⟩) (Below.mono hb3 (by simp))
        have hq : Below wr.heap.size wr ((((w3.setCell ⟨wr.heap.size, 0, none⟩ (.int .i64 qo)).setCell ⟨wr.heap.size, 1, none⟩ (.int .i64 qa)).setCell ⟨wr.heap.size, 2, none⟩ (.int .i64 qn)).setCell ⟨wr.heap.size, 3, none⟩ (.bool qb)) := Below.setCell (Below.setCell (Below.setCell (Below.setCell hbw (Nat.le_refl _) _) (Nat.le_refl _) _) (Nat.le_refl _) _) (Nat.le_refl _) _
        exact ⟨Rw.below HM.out hq, Stp.of_below HM.out.bd hq, ((((HBZ.out.below hb3).set 0 _).set 1 _).set 2 _).set 3 _, LZ.out _ (Nat.le_refl _)⟩)
      go_upto_region 7 with (fail)
      refine' join (K := _) ?main ?key
      case main =>
        intro KEY
        go_region_law (first
          | (rw [if_pos (by rfl)]; go_simp; refine HA.out.mono ?_; rintro e w3 ⟨rfl, hb3⟩; have HRW := Lib.hid (HLA.out w3 hb3); clear hb3; go_wp2_with fail)
          | (rw [if_pos (by rfl)]; go_simp; refine HZ.out.mono ?_; rintro e w3 ⟨rfl, hb3⟩; have HRW := Lib.hid (HLZ.out w3 hb3); have BZ3 := Lib.hid (HBZ.out.below hb3); have y0 := BZ3.out.cell (i := 0) rfl; have y1 := BZ3.out.cell (i := 1) rfl; have y2 := BZ3.out.cell (i := 2) rfl; have y3 := BZ3.out.cell (i := 3) rfl; have f0 := BZ3.out.frozen 0; have f1 := BZ3.out.frozen 1; have f2 := BZ3.out.frozen 2; have f3 := BZ3.out.frozen 3; clear hb3; go_wp2_with fail))
        all_goals
          first
            | (obtain ⟨w4, hw4⟩ : ∃ w4, w4 = (w3.alloc (.cells #[.int .i64 qo, .int .i64 qa, .int .i64 qn, .bool qb] 108)) := ⟨_, rfl⟩
               rw [← hw4] at HRW ⊢
               obtain ⟨x1, hx1⟩ : ∃ x1, x1 = w3.heap.size := ⟨_, rfl⟩
               rw [← hx1] at HRW ⊢
               clear hw4 hx1)
            | (obtain ⟨w4, hw4⟩ : ∃ w4, w4 = ((((w3.setCell ⟨wr.heap.size, 0, none⟩ (.int .i64 qo)).setCell ⟨wr.heap.size, 1, none⟩ (.int .i64 qa)).setCell ⟨wr.heap.size, 2, none⟩ (.int .i64 qn)).setCell ⟨wr.heap.size, 3, none⟩ (.bool qb)) := ⟨_, rfl⟩
               rw [← hw4] at HRW ⊢
               obtain ⟨x1, hx1⟩ : ∃ x1, x1 = wr.heap.size := ⟨_, rfl⟩
               rw [← hx1] at HRW ⊢
               clear hw4 hx1)
          obtain ⟨q1, q2, q3, q4⟩ := HRW.out
          have H4 := Lib.hid q1
          have S4 := Lib.hid q2
          have HX4 := Lib.hid q3
          have LX4 := Lib.hid q4
          clear q1 q2 q3 q4
          (try clear y0 y1 y2 y3 f0 f1 f2 f3)
          clear HRW
          revert w4 x1
          exact KEY
      intro w4 x1 H4 S4 HX4 LX4
      clear k4 k7 k8
      have b0 := HX4.out.cell (i := 0) rfl
      have b1 := HX4.out.cell (i := 1) rfl
      have b2 := HX4.out.cell (i := 2) rfl
      have b3 := HX4.out.cell (i := 3) rfl
      cases hat : atI i.xs t.z.pc with
        | none =>
          have hg := HGT.out
          rw [hat] at hg
          obtain ⟨rfl, rfl, rfl, rfl⟩ : 0 = qo ∧ 0 = qa ∧ 0 = qn ∧ false = qb := by simpa [got] using hg
          have hs2 := hs.trans (stp_none hat)
          have HSE := Lib.hid hs2
          clear hs hs2 hat hg
          obtain ⟨⟨A9, n9, c9, hrm⟩, _, _, _⟩ := H4.out
          have z12 := hrm.blk.frozen 12
          have k12 : w4.cell? ⟨N, 12, none⟩ = some (.int .i64 t.z.ft) := hrm.blk.cell (i := 12) rfl
          clear hrm
          have HF5 := Lib.hid (Rw.ftt H4.out 19).1
          have SF5 := Lib.hid (S4.out.trans (Rw.ftt H4.out 19).2)
          go_upto_region 22 with (fail)
          obtain ⟨W5, hW5⟩ : ∃ W5, W5 = w4.setCell ⟨N, 12, none⟩ (.int .i64 19) := ⟨_, rfl⟩
          rw [← hW5] at HF5 SF5 ⊢
          clear hW5 z12 k12

          have HFIN := Lib.hid (show s = goT i C F ⟨z, L, [], false, false⟩ from ((HGO.out.trans (if_pos (by rw [HSE.out]))).symm).trans HI2.out.2.2.2.2)
          have SA := Lib.hid (HS.out.trans SF5.out)
          obtain ⟨y, hy⟩ : ∃ y, y = t.z.tk := ⟨_, rfl⟩
          have HY := Lib.hid hy
          have hy1 : 0 ≤ y := by rw [hy, HI2.out.2.2.1]; exact HT.out.1
          have hy2 : y ≤ 1000000 := by rw [hy, HI2.out.2.2.1]; exact HT.out.2
          obtain ⟨⟨A9, n9, c9, hrm⟩, _, ⟨Ao, no, co, hob⟩, _⟩ := HF5.out
          have k11 : W5.cell? ⟨N, 11, none⟩ = some (.int .i64 t.z.tk) := hrm.blk.cell (i := 11) rfl
          rw [← hy] at k11
          have z11 := hrm.blk.frozen 11
          have hrb := SA.out.keep.blk HRB.out.1 (by rw [HRB.out.2]; exact ra_14)
          have hrl : ρk w.heap.size = .own 14 := by rw [SA.out.old _ HRB.out.1.lt]; exact HRB.out.2
          have HRL := Lib.hid hrl
          have HNR := Lib.hid (show N ≠ w.heap.size from fun e => by have h1 := hrm.ln; rw [e, hrl] at h1; injection h1 with h1; omega)
          have HT9 := Lib.hid (Rw.tks HF5.out (y + 1))
          have HO9 := Lib.hid (show Ob B (W5.setCell ⟨N, 11, none⟩ (.int .i64 (y + 1))) ρk (w.heap.size + 1) Ao no co _ _ from hob.carry (n_keep (k := 11) (x := .int .i64 (y + 1)) hrm) rl_12 rl_13)
          have HR9 := Lib.hid (show Blk (W5.setCell ⟨N, 11, none⟩ (.int .i64 (y + 1))) w.heap.size 53 [.slice none 0 0, .bool false] from hrb.far (fun e => HNR.out e.symm) _)
          clear hrm hob hrb hrl hy
          go_upto_region 23 with (fail)
          obtain ⟨W6, hW6⟩ : ∃ W6, W6 = (W5.setCell ⟨N, 11, none⟩ (.int .i64 (y + 1))) := ⟨_, rfl⟩
          rw [← hW6] at HT9 HO9 HR9 ⊢
          clear hW6 k11 z11
          have o0 := HO9.out.blk.cell (i := 0) rfl
          have o1 := HO9.out.blk.cell (i := 1) rfl
          have r0 := HR9.out.cell (i := 0) rfl
          have r1 := HR9.out.cell (i := 1) rfl
          have z0 := HR9.out.frozen 0
          have z1 := HR9.out.frozen 1
          go_wp2_with fail
          have hE := tick_end (rb := w.heap.size) (w := w) (ρ := ρ) HT9.out.1 HO9.out ((K2.out.trans (SA.out.mono fun l hl => .inl hl)).trans (HT9.out.2.mono fun l hl => .inl hl)) HR9.out HRL.out rfl true
          refine ret_row (g := w.heap.size) (cs := #[.slice Ao no co, .bool _]) Try.results14 rfl rfl hE.1 Try.underlying53 rfl size_rout ?_
          rw [HG.out, ← HFIN.out, HSE.out]
          have q9 := hE.2
          rw [HY.out] at q9
          exact q9
        | some q =>
          obtain ⟨o, a, q⟩ := q
          have hg := HGT.out
          rw [hat] at hg
          obtain ⟨rfl, rfl, rfl, rfl⟩ : o = qo ∧ a = qa ∧ t.z.pc + q = qn ∧ true = qb := by simpa [got] using hg
          clear hg
          obtain ⟨ho0, ho1, ha0, ha1, hpc0, hpc1⟩ := atI_b HX.out hat
          have HAT := Lib.hid hat
          clear hat
          obtain ⟨⟨An, n, cn, hrm⟩, _, ⟨Ao, no, co, hob⟩, _⟩ := HM.out
          have hlen := hrm.len
          have hn8 := hrm.n8
          have hm16 := hrm.m16
          have hmm := hrm.mm
          have hcn : i.n ≤ 500 := by have := HI.out.2.2.2.2.2.2.2; omega
          have HFA := Lib.hid (fun (W : World) (σ : Nat → Lab) (hh : Rw B W σ N i D m d X gl A' nc c' C (w.heap.size + 1) t.z t.L t.sn t.cf) => by
            obtain ⟨⟨_, n', _, hq⟩, _, _, _⟩ := hh
            exact (show n' = n from hq.len.symm.trans hlen) ▸ fails_any (o := o) (a := a) hq.blk hq.n8 hq.m16 hq.mm hcn ⟨ho0, ho1⟩ ⟨ha0, ha1⟩)
          clear hrm hob
          by_cases hfl : flt i n o a = 0
          · have HOK := Lib.hid (flt_oks hfl)
            have HFA := Lib.hid (show ∀ (W : World) (σ : Nat → Lab), Rw B W σ N i D m d X gl A' nc c' C (w.heap.size + 1) t.z t.L t.sn t.cf → Calls Try.prog 31 #[.pointer (some ⟨N, 0, none⟩), .agg #[.int .i64 o, .int .i64 a]] W (Fl W 0) from hfl ▸ HFA.out)
            by_cases h14 : o = 14
            · subst h14
              by_cases hsd : (snds C t.L i.p a (top t.z.st)).1.2 = 0
              · have HP := Lib.hid (show ∀ (W : World) (σ : Nat → Lab), Rw B W σ N i D m d X gl A' nc c' C (w.heap.size + 1) t.z t.L t.sn t.cf → Calls Try.prog 32 #[.pointer (some ⟨N, 0, none⟩), .agg #[.int .i64 14, .int .i64 a], .pointer (some ⟨X, 0, none⟩), .pointer (some ⟨w.heap.size + 1, 0, none⟩)] W (Rp B W σ N i D m d X gl A' nc c' C (w.heap.size + 1) { t.z with st := t.z.st.dropLast } (snds C t.L i.p a (top t.z.st)).2 (t.sn ++ [(a, top t.z.st)]) t.cf 0) from fun W σ hh => by
                  have q := p14_any hh (a := a) (by have := HOK.out.2.1.1; rw [show takes 14 = 1 from rfl] at this; omega) (by have := HI2.out.2.2.2.1; omega) ⟨ha0, ha1⟩
                  rw [if_pos hsd, if_pos hsd, if_pos hsd] at q
                  exact q)
                have HSE := Lib.hid (show s = ⟨{ t.z with pc := t.z.pc + q, st := t.z.st.dropLast }, (snds C t.L i.p a (top t.z.st)).2, (t.sn ++ [(a, top t.z.st)]), t.cf, false⟩ from by rw [hs, stp_14 HAT.out (by rw [hlen]; exact hfl), sndT_yes hsd])
                have HEQ := Lib.hid (show stkS 14 a { t.z with pc := t.z.pc + q, st := t.z.st.dropLast } = { t.z with pc := t.z.pc + q, st := t.z.st.dropLast } from by simp [stkS, VmcM.stk, mry])
                clear hs hsd hfl
                go_wp2_with fail
                refine (HFA.out _ _ H4.out).mono ?_
                rintro e w5 ⟨rfl, hb5⟩
                have H5 := Lib.hid (Rw.below H4.out hb5)
                have S5 := Lib.hid (show Stp Ra wr ρk w5 ρk from S4.out.trans (Stp.of_below H4.out.bd hb5))
                have HX5 := Lib.hid (HX4.out.below hb5)
                clear hb5 b0 b1 b2 b3
                have b0 := HX5.out.cell (i := 0) rfl
                have b1 := HX5.out.cell (i := 1) rfl
                have b2 := HX5.out.cell (i := 2) rfl
                have b3 := HX5.out.cell (i := 3) rfl

                go_wp2_with fail
                refine (HP.out _ _ H5.out).mono ?_
                rintro e w6 ⟨rfl, ρ6, r6, s6⟩
                have H6 := Lib.hid r6
                have S6 := Lib.hid (S5.out.trans s6)
                have LX6 := Lib.hid (show ρ6 x1 = .out from by rw [s6.old x1 HX5.out.lt]; exact LX4.out)
                have HX6 := Lib.hid (s6.keep.blk HX5.out (by rw [LX4.out]; exact ra_out))
                clear r6 s6 b0 b1 b2 b3
                have b0 := HX6.out.cell (i := 0) rfl
                have b1 := HX6.out.cell (i := 1) rfl
                have b2 := HX6.out.cell (i := 2) rfl
                have b3 := HX6.out.cell (i := 3) rfl

                obtain ⟨k8, fk8⟩ : w6.cell? ⟨N, 8, none⟩ = some (.int .i64 t.z.pc) ∧ w6.frozen? ⟨N, 8, none⟩ = false := by
                  obtain ⟨⟨_, _, _, hq⟩, _, _, _⟩ := H6.out
                  exact ⟨hq.blk.cell (i := 8) rfl, hq.blk.frozen 8⟩
                have H7 := Lib.hid (Rw.pc H6.out (t.z.pc + q)).1
                have S7 := Lib.hid (S6.out.trans (Rw.pc H6.out (t.z.pc + q)).2)
                have HX7 := Lib.hid ((Rw.pc H6.out (t.z.pc + q)).2.keep.blk HX6.out (by rw [LX6.out]; exact ra_out))
                have hx1N : x1 ≠ N := fun e => by
                  obtain ⟨⟨_, _, _, hq⟩, _, _, _⟩ := H6.out
                  have h1 := hq.ln
                  rw [← e, LX6.out] at h1
                  cases h1

                go_wp2_with fail
                obtain ⟨⟨A8, n8, c8, hrm8⟩, _, _, _⟩ := H7.out
                have hl8 := hrm8.len
                refine (stack_any hrm8 ⟨by omega, by omega⟩ ⟨ha0, ha1⟩ (fun h13 h14 h15 => absurd rfl h14) (fun ho => by have := HOK.out.2.2.1 ho; omega) ⟨by show 0 ≤ t.z.tk; have := HI2.out.2.2.1; have := HT.out.1; omega, by show t.z.tk ≤ 1000000; have := HI2.out.2.2.1; have := HT.out.2; omega⟩).mono ?_
                intro e w9 hgo
                obtain ⟨rfl, r9, s9⟩ := H7.out.mach hgo
                have H9 := Lib.hid r9
                have S9 := Lib.hid (S7.out.trans s9)
                have HX9 := Lib.hid (s9.keep.blk HX7.out (by rw [LX6.out]; exact ra_out))
                clear hgo r9 s9 hrm8 b0 b1 b2 b3 k8 fk8 hl8
                have b0 := HX9.out.cell (i := 0) rfl

                go_wp2_with fail
                go_roundw
                case rel =>
                  refine ⟨k + 1, ρ6, s, by omega, by go_num, Lib.hid ?_, Lib.hid (HS.out.trans S9.out), Lib.hid ⟨?_, HKP.out.2.1, HKP.out.1.trans HI2.out.2.2.1, by have := HKP.out.2.2.1; have := HI2.out.2.2.2.1; omega, ?_⟩⟩
                  · rw [HSE.out]
                    exact Eq.mp (congrArg (fun zz => Rw B w9 ρ6 N i D m d X gl A' nc c' C (w.heap.size + 1) zz (snds C t.L i.p a (top t.z.st)).2 (t.sn ++ [(a, top t.z.st)]) t.cf) HEQ.out) H9.out
                  · exact (HKP.out.2.2.2 (by rw [HSE.out])).trans HI2.out.1
                  · have q := HGO.out
                    rw [if_neg (by rw [HSE.out]; simp)] at q
                    exact q.symm.trans HI2.out.2.2.2.2
                case measure => simp [intOf]; omega
              · have HP := Lib.hid (show ∀ (W : World) (σ : Nat → Lab), Rw B W σ N i D m d X gl A' nc c' C (w.heap.size + 1) t.z t.L t.sn t.cf → Calls Try.prog 32 #[.pointer (some ⟨N, 0, none⟩), .agg #[.int .i64 14, .int .i64 a], .pointer (some ⟨X, 0, none⟩), .pointer (some ⟨w.heap.size + 1, 0, none⟩)] W (Rp B W σ N i D m d X gl A' nc c' C (w.heap.size + 1) t.z (snds C t.L i.p a (top t.z.st)).2 t.sn t.cf 15) from fun W σ hh => by
                  have q := p14_any hh (a := a) (by have := HOK.out.2.1.1; rw [show takes 14 = 1 from rfl] at this; omega) (by have := HI2.out.2.2.2.1; omega) ⟨ha0, ha1⟩
                  rw [if_neg hsd, if_neg hsd, if_neg hsd] at q
                  exact q)
                have HSE := Lib.hid (show s = ⟨{ t.z with ft := 15 }, (snds C t.L i.p a (top t.z.st)).2, t.sn, t.cf, true⟩ from by rw [hs, stp_14 HAT.out (by rw [hlen]; exact hfl), sndT_no hsd]; rfl)
                clear hs hsd hfl
                go_wp2_with fail
                refine (HFA.out _ _ H4.out).mono ?_
                rintro e w5 ⟨rfl, hb5⟩
                have H5 := Lib.hid (Rw.below H4.out hb5)
                have S5 := Lib.hid (show Stp Ra wr ρk w5 ρk from S4.out.trans (Stp.of_below H4.out.bd hb5))
                have HX5 := Lib.hid (HX4.out.below hb5)
                clear hb5 b0 b1 b2 b3
                have b0 := HX5.out.cell (i := 0) rfl
                have b1 := HX5.out.cell (i := 1) rfl
                have b2 := HX5.out.cell (i := 2) rfl
                have b3 := HX5.out.cell (i := 3) rfl

                go_wp2_with fail
                refine (HP.out _ _ H5.out).mono ?_
                rintro e w6 ⟨rfl, ρ6, r6, s6⟩
                have H6 := Lib.hid r6
                have S6 := Lib.hid (S5.out.trans s6)
                have LX6 := Lib.hid (show ρ6 x1 = .out from by rw [s6.old x1 HX5.out.lt]; exact LX4.out)
                have HX6 := Lib.hid (s6.keep.blk HX5.out (by rw [LX4.out]; exact ra_out))
                clear r6 s6 b0 b1 b2 b3
                have b0 := HX6.out.cell (i := 0) rfl
                have b1 := HX6.out.cell (i := 1) rfl
                have b2 := HX6.out.cell (i := 2) rfl
                have b3 := HX6.out.cell (i := 3) rfl

                obtain ⟨⟨A9, n9, c9, hrm⟩, _, _, _⟩ := H6.out
                have z12 := hrm.blk.frozen 12
                have k12 : w6.cell? ⟨N, 12, none⟩ = some (.int .i64 t.z.ft) := hrm.blk.cell (i := 12) rfl
                clear hrm
                have HF5 := Lib.hid (Rw.ftt H6.out 15).1
                have SF5 := Lib.hid (S6.out.trans (Rw.ftt H6.out 15).2)
                go_upto_region 22 with (fail)
                obtain ⟨W5, hW5⟩ : ∃ W5, W5 = w6.setCell ⟨N, 12, none⟩ (.int .i64 15) := ⟨_, rfl⟩
                rw [← hW5] at HF5 SF5 ⊢
                clear hW5 z12 k12

                have HFIN := Lib.hid (show s = goT i C F ⟨z, L, [], false, false⟩ from ((HGO.out.trans (if_pos (by rw [HSE.out]))).symm).trans HI2.out.2.2.2.2)
                have SA := Lib.hid (HS.out.trans SF5.out)
                obtain ⟨y, hy⟩ : ∃ y, y = t.z.tk := ⟨_, rfl⟩
                have HY := Lib.hid hy
                have hy1 : 0 ≤ y := by rw [hy, HI2.out.2.2.1]; exact HT.out.1
                have hy2 : y ≤ 1000000 := by rw [hy, HI2.out.2.2.1]; exact HT.out.2
                obtain ⟨⟨A9, n9, c9, hrm⟩, _, ⟨Ao, no, co, hob⟩, _⟩ := HF5.out
                have k11 : W5.cell? ⟨N, 11, none⟩ = some (.int .i64 t.z.tk) := hrm.blk.cell (i := 11) rfl
                rw [← hy] at k11
                have z11 := hrm.blk.frozen 11
                have hrb := SA.out.keep.blk HRB.out.1 (by rw [HRB.out.2]; exact ra_14)
                have hrl : ρ6 w.heap.size = .own 14 := by rw [SA.out.old _ HRB.out.1.lt]; exact HRB.out.2
                have HRL := Lib.hid hrl
                have HNR := Lib.hid (show N ≠ w.heap.size from fun e => by have h1 := hrm.ln; rw [e, hrl] at h1; injection h1 with h1; omega)
                have HT9 := Lib.hid (Rw.tks HF5.out (y + 1))
                have HO9 := Lib.hid (show Ob B (W5.setCell ⟨N, 11, none⟩ (.int .i64 (y + 1))) ρ6 (w.heap.size + 1) Ao no co _ _ from hob.carry (n_keep (k := 11) (x := .int .i64 (y + 1)) hrm) rl_12 rl_13)
                have HR9 := Lib.hid (show Blk (W5.setCell ⟨N, 11, none⟩ (.int .i64 (y + 1))) w.heap.size 53 [.slice none 0 0, .bool false] from hrb.far (fun e => HNR.out e.symm) _)
                clear hrm hob hrb hrl hy
                go_upto_region 23 with (fail)
                obtain ⟨W6, hW6⟩ : ∃ W6, W6 = (W5.setCell ⟨N, 11, none⟩ (.int .i64 (y + 1))) := ⟨_, rfl⟩
                rw [← hW6] at HT9 HO9 HR9 ⊢
                clear hW6 k11 z11
                have o0 := HO9.out.blk.cell (i := 0) rfl
                have o1 := HO9.out.blk.cell (i := 1) rfl
                have r0 := HR9.out.cell (i := 0) rfl
                have r1 := HR9.out.cell (i := 1) rfl
                have z0 := HR9.out.frozen 0
                have z1 := HR9.out.frozen 1
                go_wp2_with fail
                have hE := tick_end (rb := w.heap.size) (w := w) (ρ := ρ) HT9.out.1 HO9.out ((K2.out.trans (SA.out.mono fun l hl => .inl hl)).trans (HT9.out.2.mono fun l hl => .inl hl)) HR9.out HRL.out rfl true
                refine ret_row (g := w.heap.size) (cs := #[.slice Ao no co, .bool _]) Try.results14 rfl rfl hE.1 Try.underlying53 rfl size_rout ?_
                rw [HG.out, ← HFIN.out, HSE.out]
                have q9 := hE.2
                rw [HY.out] at q9
                exact q9
            · by_cases h15 : o = 15
              · subst h15
                by_cases hsd : (gets C t.L i.p a).1.2.2 = 0
                · have HP := Lib.hid (show ∀ (W : World) (σ : Nat → Lab), Rw B W σ N i D m d X gl A' nc c' C (w.heap.size + 1) t.z t.L t.sn t.cf → Calls Try.prog 32 #[.pointer (some ⟨N, 0, none⟩), .agg #[.int .i64 15, .int .i64 a], .pointer (some ⟨X, 0, none⟩), .pointer (some ⟨w.heap.size + 1, 0, none⟩)] W (Rp B W σ N i D m d X gl A' nc c' C (w.heap.size + 1) { t.z with st := if (gets C t.L i.p a).1.2.1 = true then VmcM.push 1 (VmcM.push (gets C t.L i.p a).1.1 t.z.st) else VmcM.push 0 t.z.st } (gets C t.L i.p a).2 t.sn t.cf 0) from fun W σ hh => by
                    have q := p15_any hh (a := a) (by have := HOK.out.2.1.2; rw [show takes 15 = 0 from rfl, show lays 15 = 2 from rfl] at this; omega) ⟨ha0, ha1⟩
                    rw [if_pos hsd, if_pos hsd] at q
                    exact q)
                  have HSE := Lib.hid (show s = ⟨{ t.z with pc := t.z.pc + q, st := if (gets C t.L i.p a).1.2.1 = true then VmcM.push 1 (VmcM.push (gets C t.L i.p a).1.1 t.z.st) else VmcM.push 0 t.z.st }, (gets C t.L i.p a).2, t.sn, t.cf, false⟩ from by rw [hs, stp_15 HAT.out (by rw [hlen]; exact hfl), getT_yes hsd])
                  have HEQ := Lib.hid (show stkS 15 a { t.z with pc := t.z.pc + q, st := if (gets C t.L i.p a).1.2.1 = true then VmcM.push 1 (VmcM.push (gets C t.L i.p a).1.1 t.z.st) else VmcM.push 0 t.z.st } = { t.z with pc := t.z.pc + q, st := if (gets C t.L i.p a).1.2.1 = true then VmcM.push 1 (VmcM.push (gets C t.L i.p a).1.1 t.z.st) else VmcM.push 0 t.z.st } from by simp [stkS, VmcM.stk, mry])
                  clear hs hsd hfl
                  go_wp2_with fail
                  refine (HFA.out _ _ H4.out).mono ?_
                  rintro e w5 ⟨rfl, hb5⟩
                  have H5 := Lib.hid (Rw.below H4.out hb5)
                  have S5 := Lib.hid (show Stp Ra wr ρk w5 ρk from S4.out.trans (Stp.of_below H4.out.bd hb5))
                  have HX5 := Lib.hid (HX4.out.below hb5)
                  clear hb5 b0 b1 b2 b3
                  have b0 := HX5.out.cell (i := 0) rfl
                  have b1 := HX5.out.cell (i := 1) rfl
                  have b2 := HX5.out.cell (i := 2) rfl
                  have b3 := HX5.out.cell (i := 3) rfl

                  go_wp2_with fail
                  refine (HP.out _ _ H5.out).mono ?_
                  rintro e w6 ⟨rfl, ρ6, r6, s6⟩
                  have H6 := Lib.hid r6
                  have S6 := Lib.hid (S5.out.trans s6)
                  have LX6 := Lib.hid (show ρ6 x1 = .out from by rw [s6.old x1 HX5.out.lt]; exact LX4.out)
                  have HX6 := Lib.hid (s6.keep.blk HX5.out (by rw [LX4.out]; exact ra_out))
                  clear r6 s6 b0 b1 b2 b3
                  have b0 := HX6.out.cell (i := 0) rfl
                  have b1 := HX6.out.cell (i := 1) rfl
                  have b2 := HX6.out.cell (i := 2) rfl
                  have b3 := HX6.out.cell (i := 3) rfl

                  obtain ⟨k8, fk8⟩ : w6.cell? ⟨N, 8, none⟩ = some (.int .i64 t.z.pc) ∧ w6.frozen? ⟨N, 8, none⟩ = false := by
                    obtain ⟨⟨_, _, _, hq⟩, _, _, _⟩ := H6.out
                    exact ⟨hq.blk.cell (i := 8) rfl, hq.blk.frozen 8⟩
                  have H7 := Lib.hid (Rw.pc H6.out (t.z.pc + q)).1
                  have S7 := Lib.hid (S6.out.trans (Rw.pc H6.out (t.z.pc + q)).2)
                  have HX7 := Lib.hid ((Rw.pc H6.out (t.z.pc + q)).2.keep.blk HX6.out (by rw [LX6.out]; exact ra_out))
                  have hx1N : x1 ≠ N := fun e => by
                    obtain ⟨⟨_, _, _, hq⟩, _, _, _⟩ := H6.out
                    have h1 := hq.ln
                    rw [← e, LX6.out] at h1
                    cases h1

                  go_wp2_with fail
                  obtain ⟨⟨A8, n8, c8, hrm8⟩, _, _, _⟩ := H7.out
                  have hl8 := hrm8.len
                  refine (stack_any hrm8 ⟨by omega, by omega⟩ ⟨ha0, ha1⟩ (fun h13 h14 h15 => absurd rfl h15) (fun ho => by have := HOK.out.2.2.1 ho; omega) ⟨by show 0 ≤ t.z.tk; have := HI2.out.2.2.1; have := HT.out.1; omega, by show t.z.tk ≤ 1000000; have := HI2.out.2.2.1; have := HT.out.2; omega⟩).mono ?_
                  intro e w9 hgo
                  obtain ⟨rfl, r9, s9⟩ := H7.out.mach hgo
                  have H9 := Lib.hid r9
                  have S9 := Lib.hid (S7.out.trans s9)
                  have HX9 := Lib.hid (s9.keep.blk HX7.out (by rw [LX6.out]; exact ra_out))
                  clear hgo r9 s9 hrm8 b0 b1 b2 b3 k8 fk8 hl8
                  have b0 := HX9.out.cell (i := 0) rfl

                  go_wp2_with fail
                  go_roundw
                  case rel =>
                    refine ⟨k + 1, ρ6, s, by omega, by go_num, Lib.hid ?_, Lib.hid (HS.out.trans S9.out), Lib.hid ⟨?_, HKP.out.2.1, HKP.out.1.trans HI2.out.2.2.1, by have := HKP.out.2.2.1; have := HI2.out.2.2.2.1; omega, ?_⟩⟩
                    · rw [HSE.out]
                      exact Eq.mp (congrArg (fun zz => Rw B w9 ρ6 N i D m d X gl A' nc c' C (w.heap.size + 1) zz (gets C t.L i.p a).2 t.sn t.cf) HEQ.out) H9.out
                    · exact (HKP.out.2.2.2 (by rw [HSE.out])).trans HI2.out.1
                    · have q := HGO.out
                      rw [if_neg (by rw [HSE.out]; simp)] at q
                      exact q.symm.trans HI2.out.2.2.2.2
                  case measure => simp [intOf]; omega
                · have HP := Lib.hid (show ∀ (W : World) (σ : Nat → Lab), Rw B W σ N i D m d X gl A' nc c' C (w.heap.size + 1) t.z t.L t.sn t.cf → Calls Try.prog 32 #[.pointer (some ⟨N, 0, none⟩), .agg #[.int .i64 15, .int .i64 a], .pointer (some ⟨X, 0, none⟩), .pointer (some ⟨w.heap.size + 1, 0, none⟩)] W (Rp B W σ N i D m d X gl A' nc c' C (w.heap.size + 1) t.z (gets C t.L i.p a).2 t.sn t.cf 15) from fun W σ hh => by
                    have q := p15_any hh (a := a) (by have := HOK.out.2.1.2; rw [show takes 15 = 0 from rfl, show lays 15 = 2 from rfl] at this; omega) ⟨ha0, ha1⟩
                    rw [if_neg hsd, if_neg hsd] at q
                    exact q)
                  have HSE := Lib.hid (show s = ⟨{ t.z with ft := 15 }, (gets C t.L i.p a).2, t.sn, t.cf, true⟩ from by rw [hs, stp_15 HAT.out (by rw [hlen]; exact hfl), getT_no hsd]; rfl)
                  clear hs hsd hfl
                  go_wp2_with fail
                  refine (HFA.out _ _ H4.out).mono ?_
                  rintro e w5 ⟨rfl, hb5⟩
                  have H5 := Lib.hid (Rw.below H4.out hb5)
                  have S5 := Lib.hid (show Stp Ra wr ρk w5 ρk from S4.out.trans (Stp.of_below H4.out.bd hb5))
                  have HX5 := Lib.hid (HX4.out.below hb5)
                  clear hb5 b0 b1 b2 b3
                  have b0 := HX5.out.cell (i := 0) rfl
                  have b1 := HX5.out.cell (i := 1) rfl
                  have b2 := HX5.out.cell (i := 2) rfl
                  have b3 := HX5.out.cell (i := 3) rfl

                  go_wp2_with fail
                  refine (HP.out _ _ H5.out).mono ?_
                  rintro e w6 ⟨rfl, ρ6, r6, s6⟩
                  have H6 := Lib.hid r6
                  have S6 := Lib.hid (S5.out.trans s6)
                  have LX6 := Lib.hid (show ρ6 x1 = .out from by rw [s6.old x1 HX5.out.lt]; exact LX4.out)
                  have HX6 := Lib.hid (s6.keep.blk HX5.out (by rw [LX4.out]; exact ra_out))
                  clear r6 s6 b0 b1 b2 b3
                  have b0 := HX6.out.cell (i := 0) rfl
                  have b1 := HX6.out.cell (i := 1) rfl
                  have b2 := HX6.out.cell (i := 2) rfl
                  have b3 := HX6.out.cell (i := 3) rfl

                  obtain ⟨⟨A9, n9, c9, hrm⟩, _, _, _⟩ := H6.out
                  have z12 := hrm.blk.frozen 12
                  have k12 : w6.cell? ⟨N, 12, none⟩ = some (.int .i64 t.z.ft) := hrm.blk.cell (i := 12) rfl
                  clear hrm
                  have HF5 := Lib.hid (Rw.ftt H6.out 15).1
                  have SF5 := Lib.hid (S6.out.trans (Rw.ftt H6.out 15).2)
                  go_upto_region 22 with (fail)
                  obtain ⟨W5, hW5⟩ : ∃ W5, W5 = w6.setCell ⟨N, 12, none⟩ (.int .i64 15) := ⟨_, rfl⟩
                  rw [← hW5] at HF5 SF5 ⊢
                  clear hW5 z12 k12

                  have HFIN := Lib.hid (show s = goT i C F ⟨z, L, [], false, false⟩ from ((HGO.out.trans (if_pos (by rw [HSE.out]))).symm).trans HI2.out.2.2.2.2)
                  have SA := Lib.hid (HS.out.trans SF5.out)
                  obtain ⟨y, hy⟩ : ∃ y, y = t.z.tk := ⟨_, rfl⟩
                  have HY := Lib.hid hy
                  have hy1 : 0 ≤ y := by rw [hy, HI2.out.2.2.1]; exact HT.out.1
                  have hy2 : y ≤ 1000000 := by rw [hy, HI2.out.2.2.1]; exact HT.out.2
                  obtain ⟨⟨A9, n9, c9, hrm⟩, _, ⟨Ao, no, co, hob⟩, _⟩ := HF5.out
                  have k11 : W5.cell? ⟨N, 11, none⟩ = some (.int .i64 t.z.tk) := hrm.blk.cell (i := 11) rfl
                  rw [← hy] at k11
                  have z11 := hrm.blk.frozen 11
                  have hrb := SA.out.keep.blk HRB.out.1 (by rw [HRB.out.2]; exact ra_14)
                  have hrl : ρ6 w.heap.size = .own 14 := by rw [SA.out.old _ HRB.out.1.lt]; exact HRB.out.2
                  have HRL := Lib.hid hrl
                  have HNR := Lib.hid (show N ≠ w.heap.size from fun e => by have h1 := hrm.ln; rw [e, hrl] at h1; injection h1 with h1; omega)
                  have HT9 := Lib.hid (Rw.tks HF5.out (y + 1))
                  have HO9 := Lib.hid (show Ob B (W5.setCell ⟨N, 11, none⟩ (.int .i64 (y + 1))) ρ6 (w.heap.size + 1) Ao no co _ _ from hob.carry (n_keep (k := 11) (x := .int .i64 (y + 1)) hrm) rl_12 rl_13)
                  have HR9 := Lib.hid (show Blk (W5.setCell ⟨N, 11, none⟩ (.int .i64 (y + 1))) w.heap.size 53 [.slice none 0 0, .bool false] from hrb.far (fun e => HNR.out e.symm) _)
                  clear hrm hob hrb hrl hy
                  go_upto_region 23 with (fail)
                  obtain ⟨W6, hW6⟩ : ∃ W6, W6 = (W5.setCell ⟨N, 11, none⟩ (.int .i64 (y + 1))) := ⟨_, rfl⟩
                  rw [← hW6] at HT9 HO9 HR9 ⊢
                  clear hW6 k11 z11
                  have o0 := HO9.out.blk.cell (i := 0) rfl
                  have o1 := HO9.out.blk.cell (i := 1) rfl
                  have r0 := HR9.out.cell (i := 0) rfl
                  have r1 := HR9.out.cell (i := 1) rfl
                  have z0 := HR9.out.frozen 0
                  have z1 := HR9.out.frozen 1
                  go_wp2_with fail
                  have hE := tick_end (rb := w.heap.size) (w := w) (ρ := ρ) HT9.out.1 HO9.out ((K2.out.trans (SA.out.mono fun l hl => .inl hl)).trans (HT9.out.2.mono fun l hl => .inl hl)) HR9.out HRL.out rfl true
                  refine ret_row (g := w.heap.size) (cs := #[.slice Ao no co, .bool _]) Try.results14 rfl rfl hE.1 Try.underlying53 rfl size_rout ?_
                  rw [HG.out, ← HFIN.out, HSE.out]
                  have q9 := hE.2
                  rw [HY.out] at q9
                  exact q9
              · by_cases h12 : o = 12
                · subst h12
                  have HSE := Lib.hid (show s = ⟨eff 12 a (t.z.pc + q) t.z, t.L, t.sn, t.cf, false⟩ from by rw [hs, stp_else HAT.out (by rw [hlen]; exact hfl) h14 h15]; simp)
                  have HEQ := Lib.hid (show stkS 12 a { t.z with pc := a } = eff 12 a (t.z.pc + q) t.z from by simp [stkS, eff, VmcM.stk, mry, VmcM.pcs])
                  clear hs hfl h14 h15
                  go_wp2_with fail
                  refine (HFA.out _ _ H4.out).mono ?_
                  rintro e w5 ⟨rfl, hb5⟩
                  have H5 := Lib.hid (Rw.below H4.out hb5)
                  have S5 := Lib.hid (show Stp Ra wr ρk w5 ρk from S4.out.trans (Stp.of_below H4.out.bd hb5))
                  have HX5 := Lib.hid (HX4.out.below hb5)
                  clear hb5 b0 b1 b2 b3
                  have b0 := HX5.out.cell (i := 0) rfl
                  have b1 := HX5.out.cell (i := 1) rfl
                  have b2 := HX5.out.cell (i := 2) rfl
                  have b3 := HX5.out.cell (i := 3) rfl

                  obtain ⟨k8, fk8⟩ : w5.cell? ⟨N, 8, none⟩ = some (.int .i64 t.z.pc) ∧ w5.frozen? ⟨N, 8, none⟩ = false := by
                    obtain ⟨⟨_, _, _, hq⟩, _, _, _⟩ := H5.out
                    exact ⟨hq.blk.cell (i := 8) rfl, hq.blk.frozen 8⟩
                  have H7 := Lib.hid (Rw.pc H5.out (t.z.pc + q)).1
                  have S7 := Lib.hid (S5.out.trans (Rw.pc H5.out (t.z.pc + q)).2)
                  have HX7 := Lib.hid ((Rw.pc H5.out (t.z.pc + q)).2.keep.blk HX5.out (by rw [LX4.out]; exact ra_out))
                  have hx1N : x1 ≠ N := fun e => by
                    obtain ⟨⟨_, _, _, hq⟩, _, _, _⟩ := H5.out
                    have h1 := hq.ln
                    rw [← e, LX4.out] at h1
                    cases h1

                  have HX8 := Lib.hid ((Rw.pc H7.out a).2.keep.blk HX7.out (by rw [LX4.out]; exact ra_out))
                  have H8 := Lib.hid (Rw.pc H7.out a).1
                  have S8 := Lib.hid (S7.out.trans (Rw.pc H7.out a).2)

                  go_wp2_with fail
                  obtain ⟨⟨A8, n8, c8, hrm8⟩, _, _, _⟩ := H8.out
                  have hl8 := hrm8.len
                  refine (stack_any hrm8 ⟨by omega, by omega⟩ ⟨ha0, ha1⟩ (fun _ _ _ => by have e8 : n8 = n := hl8.symm.trans hlen; subst e8; exact HOK.out.2.1) (fun ho => by have := HOK.out.2.2.1 ho; omega) ⟨by show 0 ≤ t.z.tk; have := HI2.out.2.2.1; have := HT.out.1; omega, by show t.z.tk ≤ 1000000; have := HI2.out.2.2.1; have := HT.out.2; omega⟩).mono ?_
                  intro e w9 hgo
                  obtain ⟨rfl, r9, s9⟩ := H8.out.mach hgo
                  have H9 := Lib.hid r9
                  have S9 := Lib.hid (S8.out.trans s9)
                  have HX9 := Lib.hid (s9.keep.blk HX8.out (by rw [LX4.out]; exact ra_out))
                  clear hgo r9 s9 hrm8 b0 b1 b2 b3 k8 fk8 hl8
                  have b0 := HX9.out.cell (i := 0) rfl

                  go_wp2_with fail
                  go_roundw
                  case rel =>
                    refine ⟨k + 1, ρk, s, by omega, by go_num, Lib.hid ?_, Lib.hid (HS.out.trans S9.out), Lib.hid ⟨?_, HKP.out.2.1, HKP.out.1.trans HI2.out.2.2.1, by have := HKP.out.2.2.1; have := HI2.out.2.2.2.1; omega, ?_⟩⟩
                    · rw [HSE.out]
                      exact Eq.mp (congrArg (fun zz => Rw B w9 ρk N i D m d X gl A' nc c' C (w.heap.size + 1) zz t.L t.sn t.cf) HEQ.out) H9.out
                    · exact (HKP.out.2.2.2 (by rw [HSE.out])).trans HI2.out.1
                    · have q := HGO.out
                      rw [if_neg (by rw [HSE.out]; simp)] at q
                      exact q.symm.trans HI2.out.2.2.2.2
                  case measure => simp [intOf]; omega
                · by_cases h13 : o = 13
                  · subst h13
                    obtain ⟨tp, htp⟩ : ∃ tp, tp = top t.z.st := ⟨_, rfl⟩
                    have HTP := Lib.hid htp
                    have HN0 := Lib.hid (show 0 < n from by have := HOK.out.2.1.1; rw [show takes 13 = 1 from rfl] at this; omega)
                    have hn0 := HN0.out
                    by_cases ht0 : tp = 0
                    · have e9 : (tp == 0) = true := by simpa using ht0
                      have HSE := Lib.hid (show s = ⟨eff 13 a (t.z.pc + q) t.z, t.L, t.sn, t.cf, false⟩ from by rw [hs, stp_else HAT.out (by rw [hlen]; exact hfl) h14 h15]; simp)
                      have HEQ := Lib.hid (show stkS 13 a { t.z with pc := a, st := t.z.st.dropLast } = eff 13 a (t.z.pc + q) t.z from by rw [htp] at ht0; simp [stkS, eff, VmcM.stk, mry, VmcM.pcs, ht0])
                      clear hs hfl h14 h15 htp ht0
                      go_wp2_with fail
                      refine (HFA.out _ _ H4.out).mono ?_
                      rintro e w5 ⟨rfl, hb5⟩
                      have H5 := Lib.hid (Rw.below H4.out hb5)
                      have S5 := Lib.hid (show Stp Ra wr ρk w5 ρk from S4.out.trans (Stp.of_below H4.out.bd hb5))
                      have HX5 := Lib.hid (HX4.out.below hb5)
                      clear hb5 b0 b1 b2 b3
                      have b0 := HX5.out.cell (i := 0) rfl
                      have b1 := HX5.out.cell (i := 1) rfl
                      have b2 := HX5.out.cell (i := 2) rfl
                      have b3 := HX5.out.cell (i := 3) rfl

                      obtain ⟨k8, fk8⟩ : w5.cell? ⟨N, 8, none⟩ = some (.int .i64 t.z.pc) ∧ w5.frozen? ⟨N, 8, none⟩ = false := by
                        obtain ⟨⟨_, _, _, hq⟩, _, _, _⟩ := H5.out
                        exact ⟨hq.blk.cell (i := 8) rfl, hq.blk.frozen 8⟩
                      have H7 := Lib.hid (Rw.pc H5.out (t.z.pc + q)).1
                      have S7 := Lib.hid (S5.out.trans (Rw.pc H5.out (t.z.pc + q)).2)
                      have HX7 := Lib.hid ((Rw.pc H5.out (t.z.pc + q)).2.keep.blk HX5.out (by rw [LX4.out]; exact ra_out))
                      have hx1N : x1 ≠ N := fun e => by
                        obtain ⟨⟨_, _, _, hq⟩, _, _, _⟩ := H5.out
                        have h1 := hq.ln
                        rw [← e, LX4.out] at h1
                        cases h1

                      go_wp2_with fail
                      obtain ⟨⟨A7, n7, c7, hrm7⟩, _, _, _⟩ := H7.out
                      refine (pop_rm hrm7 (by have := hrm7.len; dsimp only at this; omega)).mono ?_
                      intro e w7 hgo
                      obtain ⟨he7, r7, s7⟩ := H7.out.mach hgo
                      have he7 : e = .returned (.int .i64 tp) := he7.trans (congrArg (fun x => Ending.returned (.int .i64 x)) HTP.out.symm)
                      subst he7
                      have H7 := Lib.hid r7
                      have HX7 := Lib.hid (s7.keep.blk HX7.out (by rw [LX4.out]; exact ra_out))
                      have S7 := Lib.hid (S7.out.trans s7)
                      clear hgo r7 s7 hrm7 b0 b1 b2 b3 k8 fk8
                      have b0 := HX7.out.cell (i := 0) rfl
                      have b1 := HX7.out.cell (i := 1) rfl
                      have b2 := HX7.out.cell (i := 2) rfl
                      have b3 := HX7.out.cell (i := 3) rfl

                      obtain ⟨k8, fk8⟩ : w7.cell? ⟨N, 8, none⟩ = some (.int .i64 (t.z.pc + q)) ∧ w7.frozen? ⟨N, 8, none⟩ = false := by
                        obtain ⟨⟨_, _, _, hq⟩, _, _, _⟩ := H7.out
                        exact ⟨hq.blk.cell (i := 8) rfl, hq.blk.frozen 8⟩
                      have HX8 := Lib.hid ((Rw.pc H7.out a).2.keep.blk HX7.out (by rw [LX4.out]; exact ra_out))
                      have H8 := Lib.hid (Rw.pc H7.out a).1
                      have S8 := Lib.hid (S7.out.trans (Rw.pc H7.out a).2)

                      go_wp2_with fail
                      obtain ⟨⟨A8, n8, c8, hrm8⟩, _, _, _⟩ := H8.out
                      have hl8 := hrm8.len
                      refine (stack_any hrm8 ⟨by omega, by omega⟩ ⟨ha0, ha1⟩ (fun h13 h14 h15 => absurd rfl h13) (fun ho => by have := HOK.out.2.2.1 ho; omega) ⟨by show 0 ≤ t.z.tk; have := HI2.out.2.2.1; have := HT.out.1; omega, by show t.z.tk ≤ 1000000; have := HI2.out.2.2.1; have := HT.out.2; omega⟩).mono ?_
                      intro e w9 hgo
                      obtain ⟨rfl, r9, s9⟩ := H8.out.mach hgo
                      have H9 := Lib.hid r9
                      have S9 := Lib.hid (S8.out.trans s9)
                      have HX9 := Lib.hid (s9.keep.blk HX8.out (by rw [LX4.out]; exact ra_out))
                      clear hgo r9 s9 hrm8 b0 b1 b2 b3 k8 fk8 hl8
                      have b0 := HX9.out.cell (i := 0) rfl

                      go_wp2_with fail
                      go_roundw
                      case rel =>
                        refine ⟨k + 1, ρk, s, by omega, by go_num, Lib.hid ?_, Lib.hid (HS.out.trans S9.out), Lib.hid ⟨?_, HKP.out.2.1, HKP.out.1.trans HI2.out.2.2.1, by have := HKP.out.2.2.1; have := HI2.out.2.2.2.1; omega, ?_⟩⟩
                        · rw [HSE.out]
                          exact Eq.mp (congrArg (fun zz => Rw B w9 ρk N i D m d X gl A' nc c' C (w.heap.size + 1) zz t.L t.sn t.cf) HEQ.out) H9.out
                        · exact (HKP.out.2.2.2 (by rw [HSE.out])).trans HI2.out.1
                        · have q := HGO.out
                          rw [if_neg (by rw [HSE.out]; simp)] at q
                          exact q.symm.trans HI2.out.2.2.2.2
                      case measure => simp [intOf]; omega
                    · have e9 : (tp == 0) = false := by simpa using ht0
                      have HSE := Lib.hid (show s = ⟨eff 13 a (t.z.pc + q) t.z, t.L, t.sn, t.cf, false⟩ from by rw [hs, stp_else HAT.out (by rw [hlen]; exact hfl) h14 h15]; simp)
                      have HEQ := Lib.hid (show stkS 13 a { t.z with pc := t.z.pc + q, st := t.z.st.dropLast } = eff 13 a (t.z.pc + q) t.z from by rw [htp] at ht0; simp [stkS, eff, VmcM.stk, mry, VmcM.pcs, ht0])
                      clear hs hfl h14 h15 htp ht0
                      go_wp2_with fail
                      refine (HFA.out _ _ H4.out).mono ?_
                      rintro e w5 ⟨rfl, hb5⟩
                      have H5 := Lib.hid (Rw.below H4.out hb5)
                      have S5 := Lib.hid (show Stp Ra wr ρk w5 ρk from S4.out.trans (Stp.of_below H4.out.bd hb5))
                      have HX5 := Lib.hid (HX4.out.below hb5)
                      clear hb5 b0 b1 b2 b3
                      have b0 := HX5.out.cell (i := 0) rfl
                      have b1 := HX5.out.cell (i := 1) rfl
                      have b2 := HX5.out.cell (i := 2) rfl
                      have b3 := HX5.out.cell (i := 3) rfl

                      obtain ⟨k8, fk8⟩ : w5.cell? ⟨N, 8, none⟩ = some (.int .i64 t.z.pc) ∧ w5.frozen? ⟨N, 8, none⟩ = false := by
                        obtain ⟨⟨_, _, _, hq⟩, _, _, _⟩ := H5.out
                        exact ⟨hq.blk.cell (i := 8) rfl, hq.blk.frozen 8⟩
                      have H7 := Lib.hid (Rw.pc H5.out (t.z.pc + q)).1
                      have S7 := Lib.hid (S5.out.trans (Rw.pc H5.out (t.z.pc + q)).2)
                      have HX7 := Lib.hid ((Rw.pc H5.out (t.z.pc + q)).2.keep.blk HX5.out (by rw [LX4.out]; exact ra_out))
                      have hx1N : x1 ≠ N := fun e => by
                        obtain ⟨⟨_, _, _, hq⟩, _, _, _⟩ := H5.out
                        have h1 := hq.ln
                        rw [← e, LX4.out] at h1
                        cases h1

                      go_wp2_with fail
                      obtain ⟨⟨A7, n7, c7, hrm7⟩, _, _, _⟩ := H7.out
                      refine (pop_rm hrm7 (by have := hrm7.len; dsimp only at this; omega)).mono ?_
                      intro e w7 hgo
                      obtain ⟨he7, r7, s7⟩ := H7.out.mach hgo
                      have he7 : e = .returned (.int .i64 tp) := he7.trans (congrArg (fun x => Ending.returned (.int .i64 x)) HTP.out.symm)
                      subst he7
                      have H7 := Lib.hid r7
                      have HX7 := Lib.hid (s7.keep.blk HX7.out (by rw [LX4.out]; exact ra_out))
                      have S7 := Lib.hid (S7.out.trans s7)
                      clear hgo r7 s7 hrm7 b0 b1 b2 b3 k8 fk8
                      have b0 := HX7.out.cell (i := 0) rfl
                      have b1 := HX7.out.cell (i := 1) rfl
                      have b2 := HX7.out.cell (i := 2) rfl
                      have b3 := HX7.out.cell (i := 3) rfl

                      obtain ⟨k8, fk8⟩ : w7.cell? ⟨N, 8, none⟩ = some (.int .i64 (t.z.pc + q)) ∧ w7.frozen? ⟨N, 8, none⟩ = false := by
                        obtain ⟨⟨_, _, _, hq⟩, _, _, _⟩ := H7.out
                        exact ⟨hq.blk.cell (i := 8) rfl, hq.blk.frozen 8⟩
                      go_wp2_with fail
                      obtain ⟨⟨A8, n8, c8, hrm8⟩, _, _, _⟩ := H7.out
                      have hl8 := hrm8.len
                      refine (stack_any hrm8 ⟨by omega, by omega⟩ ⟨ha0, ha1⟩ (fun h13 h14 h15 => absurd rfl h13) (fun ho => by have := HOK.out.2.2.1 ho; omega) ⟨by show 0 ≤ t.z.tk; have := HI2.out.2.2.1; have := HT.out.1; omega, by show t.z.tk ≤ 1000000; have := HI2.out.2.2.1; have := HT.out.2; omega⟩).mono ?_
                      intro e w9 hgo
                      obtain ⟨rfl, r9, s9⟩ := H7.out.mach hgo
                      have H9 := Lib.hid r9
                      have S9 := Lib.hid (S7.out.trans s9)
                      have HX9 := Lib.hid (s9.keep.blk HX7.out (by rw [LX4.out]; exact ra_out))
                      clear hgo r9 s9 hrm8 b0 b1 b2 b3 k8 fk8 hl8
                      have b0 := HX9.out.cell (i := 0) rfl

                      go_wp2_with fail
                      go_roundw
                      case rel =>
                        refine ⟨k + 1, ρk, s, by omega, by go_num, Lib.hid ?_, Lib.hid (HS.out.trans S9.out), Lib.hid ⟨?_, HKP.out.2.1, HKP.out.1.trans HI2.out.2.2.1, by have := HKP.out.2.2.1; have := HI2.out.2.2.2.1; omega, ?_⟩⟩
                        · rw [HSE.out]
                          exact Eq.mp (congrArg (fun zz => Rw B w9 ρk N i D m d X gl A' nc c' C (w.heap.size + 1) zz t.L t.sn t.cf) HEQ.out) H9.out
                        · exact (HKP.out.2.2.2 (by rw [HSE.out])).trans HI2.out.1
                        · have q := HGO.out
                          rw [if_neg (by rw [HSE.out]; simp)] at q
                          exact q.symm.trans HI2.out.2.2.2.2
                      case measure => simp [intOf]; omega
                  · by_cases h16 : o = 16
                    · subst h16
                      have HSE := Lib.hid (show s = ⟨eff 16 a (t.z.pc + q) t.z, t.L, t.sn, true, false⟩ from by rw [hs, stp_else HAT.out (by rw [hlen]; exact hfl) h14 h15]; simp)
                      have HEQ := Lib.hid (show stkS 16 a { t.z with pc := t.z.pc + q } = eff 16 a (t.z.pc + q) t.z from by simp [stkS, eff, VmcM.stk, mry, VmcM.pcs])
                      clear hs hfl h14 h15
                      go_wp2_with fail
                      refine (HFA.out _ _ H4.out).mono ?_
                      rintro e w5 ⟨rfl, hb5⟩
                      have H5 := Lib.hid (Rw.below H4.out hb5)
                      have S5 := Lib.hid (show Stp Ra wr ρk w5 ρk from S4.out.trans (Stp.of_below H4.out.bd hb5))
                      have HX5 := Lib.hid (HX4.out.below hb5)
                      clear hb5 b0 b1 b2 b3
                      have b0 := HX5.out.cell (i := 0) rfl
                      have b1 := HX5.out.cell (i := 1) rfl
                      have b2 := HX5.out.cell (i := 2) rfl
                      have b3 := HX5.out.cell (i := 3) rfl

                      obtain ⟨k8, fk8⟩ : w5.cell? ⟨N, 8, none⟩ = some (.int .i64 t.z.pc) ∧ w5.frozen? ⟨N, 8, none⟩ = false := by
                        obtain ⟨⟨_, _, _, hq⟩, _, _, _⟩ := H5.out
                        exact ⟨hq.blk.cell (i := 8) rfl, hq.blk.frozen 8⟩
                      have H7 := Lib.hid (Rw.pc H5.out (t.z.pc + q)).1
                      have S7 := Lib.hid (S5.out.trans (Rw.pc H5.out (t.z.pc + q)).2)
                      have HX7 := Lib.hid ((Rw.pc H5.out (t.z.pc + q)).2.keep.blk HX5.out (by rw [LX4.out]; exact ra_out))
                      have hx1N : x1 ≠ N := fun e => by
                        obtain ⟨⟨_, _, _, hq⟩, _, _, _⟩ := H5.out
                        have h1 := hq.ln
                        rw [← e, LX4.out] at h1
                        cases h1

                      go_wp2_with fail
                      obtain ⟨⟨A8, n8, c8, hrm8⟩, _, _, _⟩ := H7.out
                      have hl8 := hrm8.len
                      refine (stack_any hrm8 ⟨by omega, by omega⟩ ⟨ha0, ha1⟩ (fun _ _ _ => by have e8 : n8 = n := hl8.symm.trans hlen; subst e8; exact HOK.out.2.1) (fun ho => by have := HOK.out.2.2.1 ho; omega) ⟨by show 0 ≤ t.z.tk; have := HI2.out.2.2.1; have := HT.out.1; omega, by show t.z.tk ≤ 1000000; have := HI2.out.2.2.1; have := HT.out.2; omega⟩).mono ?_
                      intro e w9 hgo
                      obtain ⟨rfl, r9, s9⟩ := H7.out.mach hgo
                      have H9 := Lib.hid r9
                      have S9 := Lib.hid (S7.out.trans s9)
                      have HX9 := Lib.hid (s9.keep.blk HX7.out (by rw [LX4.out]; exact ra_out))
                      clear hgo r9 s9 hrm8 b0 b1 b2 b3 k8 fk8 hl8
                      have b0 := HX9.out.cell (i := 0) rfl

                      obtain ⟨_, _, ⟨Ao, no, co, hob⟩, _⟩ := H9.out
                      have o1 := hob.blk.cell (i := 1) rfl
                      have z1 := hob.blk.frozen 1
                      clear hob
                      have HC := Lib.hid (Rw.conf H9.out).1
                      have SC := Lib.hid (S9.out.trans (Rw.conf H9.out).2)

                      go_wp2_with fail
                      go_roundw
                      case rel =>
                        refine ⟨k + 1, ρk, s, by omega, by go_num, Lib.hid ?_, Lib.hid (HS.out.trans SC.out), Lib.hid ⟨?_, HKP.out.2.1, HKP.out.1.trans HI2.out.2.2.1, by have := HKP.out.2.2.1; have := HI2.out.2.2.2.1; omega, ?_⟩⟩
                        · rw [HSE.out]
                          exact Eq.mp (congrArg (fun zz => Rw B (w9.setCell ⟨w.heap.size + 1, 1, none⟩ (.bool true)) ρk N i D m d X gl A' nc c' C (w.heap.size + 1) zz t.L t.sn true) HEQ.out) HC.out
                        · exact (HKP.out.2.2.2 (by rw [HSE.out])).trans HI2.out.1
                        · have q := HGO.out
                          rw [if_neg (by rw [HSE.out]; simp)] at q
                          exact q.symm.trans HI2.out.2.2.2.2
                      case measure => simp [intOf]; omega
                    · by_cases h0 : o = 0
                      · subst h0
                        have HSE := Lib.hid (show s = ⟨stkS 0 a { t.z with pc := t.z.pc + q }, t.L, t.sn, t.cf, true⟩ from by rw [hs, stp_else HAT.out (by rw [hlen]; exact hfl) h14 h15]; simp [stkS, eff, VmcM.stk, mry, VmcM.pcs])
                        clear hs hfl h14 h15
                        go_wp2_with fail
                        refine (HFA.out _ _ H4.out).mono ?_
                        rintro e w5 ⟨rfl, hb5⟩
                        have H5 := Lib.hid (Rw.below H4.out hb5)
                        have S5 := Lib.hid (show Stp Ra wr ρk w5 ρk from S4.out.trans (Stp.of_below H4.out.bd hb5))
                        have HX5 := Lib.hid (HX4.out.below hb5)
                        clear hb5 b0 b1 b2 b3
                        have b0 := HX5.out.cell (i := 0) rfl
                        have b1 := HX5.out.cell (i := 1) rfl
                        have b2 := HX5.out.cell (i := 2) rfl
                        have b3 := HX5.out.cell (i := 3) rfl

                        obtain ⟨k8, fk8⟩ : w5.cell? ⟨N, 8, none⟩ = some (.int .i64 t.z.pc) ∧ w5.frozen? ⟨N, 8, none⟩ = false := by
                          obtain ⟨⟨_, _, _, hq⟩, _, _, _⟩ := H5.out
                          exact ⟨hq.blk.cell (i := 8) rfl, hq.blk.frozen 8⟩
                        have H7 := Lib.hid (Rw.pc H5.out (t.z.pc + q)).1
                        have S7 := Lib.hid (S5.out.trans (Rw.pc H5.out (t.z.pc + q)).2)
                        have HX7 := Lib.hid ((Rw.pc H5.out (t.z.pc + q)).2.keep.blk HX5.out (by rw [LX4.out]; exact ra_out))
                        have hx1N : x1 ≠ N := fun e => by
                          obtain ⟨⟨_, _, _, hq⟩, _, _, _⟩ := H5.out
                          have h1 := hq.ln
                          rw [← e, LX4.out] at h1
                          cases h1

                        go_wp2_with fail
                        obtain ⟨⟨A8, n8, c8, hrm8⟩, _, _, _⟩ := H7.out
                        have hl8 := hrm8.len
                        refine (stack_any hrm8 ⟨by omega, by omega⟩ ⟨ha0, ha1⟩ (fun _ _ _ => by have e8 : n8 = n := hl8.symm.trans hlen; subst e8; exact HOK.out.2.1) (fun ho => by have := HOK.out.2.2.1 ho; omega) ⟨by show 0 ≤ t.z.tk; have := HI2.out.2.2.1; have := HT.out.1; omega, by show t.z.tk ≤ 1000000; have := HI2.out.2.2.1; have := HT.out.2; omega⟩).mono ?_
                        intro e w9 hgo
                        obtain ⟨rfl, r9, s9⟩ := H7.out.mach hgo
                        have H9 := Lib.hid r9
                        have S9 := Lib.hid (S7.out.trans s9)
                        have HX9 := Lib.hid (s9.keep.blk HX7.out (by rw [LX4.out]; exact ra_out))
                        clear hgo r9 s9 hrm8 b0 b1 b2 b3 k8 fk8 hl8
                        have b0 := HX9.out.cell (i := 0) rfl

                        have HFIN := Lib.hid (show s = goT i C F ⟨z, L, [], false, false⟩ from ((HGO.out.trans (if_pos (by rw [HSE.out]))).symm).trans HI2.out.2.2.2.2)
                        have SA := Lib.hid (HS.out.trans S9.out)
                        obtain ⟨y, hy⟩ : ∃ y, y = t.z.tk := ⟨_, rfl⟩
                        have HY := Lib.hid hy
                        have hy1 : 0 ≤ y := by rw [hy, HI2.out.2.2.1]; exact HT.out.1
                        have hy2 : y ≤ 1000000 := by rw [hy, HI2.out.2.2.1]; exact HT.out.2
                        obtain ⟨⟨A9, n9, c9, hrm⟩, _, ⟨Ao, no, co, hob⟩, _⟩ := H9.out
                        have k11 : w9.cell? ⟨N, 11, none⟩ = some (.int .i64 t.z.tk) := hrm.blk.cell (i := 11) rfl
                        rw [← hy] at k11
                        have z11 := hrm.blk.frozen 11
                        have hrb := SA.out.keep.blk HRB.out.1 (by rw [HRB.out.2]; exact ra_14)
                        have hrl : ρk w.heap.size = .own 14 := by rw [SA.out.old _ HRB.out.1.lt]; exact HRB.out.2
                        have HRL := Lib.hid hrl
                        have HNR := Lib.hid (show N ≠ w.heap.size from fun e => by have h1 := hrm.ln; rw [e, hrl] at h1; injection h1 with h1; omega)
                        have HT9 := Lib.hid (Rw.tks H9.out (y + 1))
                        have HO9 := Lib.hid (show Ob B (w9.setCell ⟨N, 11, none⟩ (.int .i64 (y + 1))) ρk (w.heap.size + 1) Ao no co _ _ from hob.carry (n_keep (k := 11) (x := .int .i64 (y + 1)) hrm) rl_12 rl_13)
                        have HR9 := Lib.hid (show Blk (w9.setCell ⟨N, 11, none⟩ (.int .i64 (y + 1))) w.heap.size 53 [.slice none 0 0, .bool false] from hrb.far (fun e => HNR.out e.symm) _)
                        clear hrm hob hrb hrl hy
                        go_upto_region 23 with (fail)
                        obtain ⟨W6, hW6⟩ : ∃ W6, W6 = (w9.setCell ⟨N, 11, none⟩ (.int .i64 (y + 1))) := ⟨_, rfl⟩
                        rw [← hW6] at HT9 HO9 HR9 ⊢
                        clear hW6 k11 z11
                        have o0 := HO9.out.blk.cell (i := 0) rfl
                        have o1 := HO9.out.blk.cell (i := 1) rfl
                        have r0 := HR9.out.cell (i := 0) rfl
                        have r1 := HR9.out.cell (i := 1) rfl
                        have z0 := HR9.out.frozen 0
                        have z1 := HR9.out.frozen 1
                        go_wp2_with fail
                        have hE := tick_end (rb := w.heap.size) (w := w) (ρ := ρ) HT9.out.1 HO9.out ((K2.out.trans (SA.out.mono fun l hl => .inl hl)).trans (HT9.out.2.mono fun l hl => .inl hl)) HR9.out HRL.out rfl true
                        refine ret_row (g := w.heap.size) (cs := #[.slice Ao no co, .bool _]) Try.results14 rfl rfl hE.1 Try.underlying53 rfl size_rout ?_
                        rw [HG.out, ← HFIN.out, HSE.out]
                        have q9 := hE.2
                        rw [HY.out] at q9
                        exact q9
                      · have h17 := HOK.out.2.2.2.1
                        have HSE := Lib.hid (show s = ⟨eff o a (t.z.pc + q) t.z, t.L, t.sn, t.cf, false⟩ from by rw [hs, stp_else HAT.out (by rw [hlen]; exact hfl) h14 h15, decide_eq_false h16, decide_eq_false h0, Bool.or_false])
                        have HEQ := Lib.hid (show stkS o a { t.z with pc := t.z.pc + q } = eff o a (t.z.pc + q) t.z from by unfold stkS eff VmcM.pcs; rw [if_neg h13, if_neg (by omega)]; rfl)
                        have e12 : (o == 12) = false := by simpa using h12
                        have e13 : (o == 13) = false := by simpa using h13
                        have e14 : (o == 14) = false := by simpa using h14
                        have e15 : (o == 15) = false := by simpa using h15
                        have e16 : (o == 16) = false := by simpa using h16
                        have e00 : (o == 0) = false := by simpa using h0
                        clear hs hfl h12 h13 h14 h15 h16 h17 h0
                        go_wp2_with fail
                        refine (HFA.out _ _ H4.out).mono ?_
                        rintro e w5 ⟨rfl, hb5⟩
                        have H5 := Lib.hid (Rw.below H4.out hb5)
                        have S5 := Lib.hid (show Stp Ra wr ρk w5 ρk from S4.out.trans (Stp.of_below H4.out.bd hb5))
                        have HX5 := Lib.hid (HX4.out.below hb5)
                        clear hb5 b0 b1 b2 b3
                        have b0 := HX5.out.cell (i := 0) rfl
                        have b1 := HX5.out.cell (i := 1) rfl
                        have b2 := HX5.out.cell (i := 2) rfl
                        have b3 := HX5.out.cell (i := 3) rfl

                        obtain ⟨k8, fk8⟩ : w5.cell? ⟨N, 8, none⟩ = some (.int .i64 t.z.pc) ∧ w5.frozen? ⟨N, 8, none⟩ = false := by
                          obtain ⟨⟨_, _, _, hq⟩, _, _, _⟩ := H5.out
                          exact ⟨hq.blk.cell (i := 8) rfl, hq.blk.frozen 8⟩
                        have H7 := Lib.hid (Rw.pc H5.out (t.z.pc + q)).1
                        have S7 := Lib.hid (S5.out.trans (Rw.pc H5.out (t.z.pc + q)).2)
                        have HX7 := Lib.hid ((Rw.pc H5.out (t.z.pc + q)).2.keep.blk HX5.out (by rw [LX4.out]; exact ra_out))
                        have hx1N : x1 ≠ N := fun e => by
                          obtain ⟨⟨_, _, _, hq⟩, _, _, _⟩ := H5.out
                          have h1 := hq.ln
                          rw [← e, LX4.out] at h1
                          cases h1

                        go_wp2_with fail
                        obtain ⟨⟨A8, n8, c8, hrm8⟩, _, _, _⟩ := H7.out
                        have hl8 := hrm8.len
                        refine (stack_any hrm8 ⟨by omega, by omega⟩ ⟨ha0, ha1⟩ (fun _ _ _ => by have e8 : n8 = n := hl8.symm.trans hlen; subst e8; exact HOK.out.2.1) (fun ho => by have := HOK.out.2.2.1 ho; omega) ⟨by show 0 ≤ t.z.tk; have := HI2.out.2.2.1; have := HT.out.1; omega, by show t.z.tk ≤ 1000000; have := HI2.out.2.2.1; have := HT.out.2; omega⟩).mono ?_
                        intro e w9 hgo
                        obtain ⟨rfl, r9, s9⟩ := H7.out.mach hgo
                        have H9 := Lib.hid r9
                        have S9 := Lib.hid (S7.out.trans s9)
                        have HX9 := Lib.hid (s9.keep.blk HX7.out (by rw [LX4.out]; exact ra_out))
                        clear hgo r9 s9 hrm8 b0 b1 b2 b3 k8 fk8 hl8
                        have b0 := HX9.out.cell (i := 0) rfl

                        go_wp2_with fail
                        go_roundw
                        case rel =>
                          refine ⟨k + 1, ρk, s, by omega, by go_num, Lib.hid ?_, Lib.hid (HS.out.trans S9.out), Lib.hid ⟨?_, HKP.out.2.1, HKP.out.1.trans HI2.out.2.2.1, by have := HKP.out.2.2.1; have := HI2.out.2.2.2.1; omega, ?_⟩⟩
                          · rw [HSE.out]
                            exact Eq.mp (congrArg (fun zz => Rw B w9 ρk N i D m d X gl A' nc c' C (w.heap.size + 1) zz t.L t.sn t.cf) HEQ.out) H9.out
                          · exact (HKP.out.2.2.2 (by rw [HSE.out])).trans HI2.out.1
                          · have q := HGO.out
                            rw [if_neg (by rw [HSE.out]; simp)] at q
                            exact q.symm.trans HI2.out.2.2.2.2
                        case measure => simp [intOf]; omega
          · have hs2 := hs.trans (stp_flt HAT.out (by rw [hlen]; exact hfl))
            rw [hlen] at hs2
            obtain ⟨hfb1, hfb2⟩ := flt_bd i n o a
            obtain ⟨f, hfe⟩ : ∃ f, f = flt i n o a := ⟨_, rfl⟩
            rw [← hfe] at hs2 hfl HFA hfb1 hfb2
            have HSE := Lib.hid hs2
            clear hs hs2 hfe
            have e0 : (f == 0) = false := by simpa using hfl
            have e1 : (f != 0) = true := by simpa using hfl
            go_wp2_with fail
            refine (HFA.out _ _ H4.out).mono ?_
            rintro e w5 ⟨rfl, hb5⟩
            have H5 := Lib.hid (Rw.below H4.out hb5)
            have S5 := Lib.hid (show Stp Ra wr ρk w5 ρk from S4.out.trans (Stp.of_below H4.out.bd hb5))
            have HX5 := Lib.hid (HX4.out.below hb5)
            clear hb5 b0 b1 b2 b3
            have b0 := HX5.out.cell (i := 0) rfl
            have b1 := HX5.out.cell (i := 1) rfl
            have b2 := HX5.out.cell (i := 2) rfl
            have b3 := HX5.out.cell (i := 3) rfl

            obtain ⟨⟨A9, n9, c9, hrm⟩, _, _, _⟩ := H5.out
            have z12 := hrm.blk.frozen 12
            have k12 : w5.cell? ⟨N, 12, none⟩ = some (.int .i64 t.z.ft) := hrm.blk.cell (i := 12) rfl
            clear hrm
            have HF5 := Lib.hid (Rw.ftt H5.out f).1
            have SF5 := Lib.hid (S5.out.trans (Rw.ftt H5.out f).2)
            go_upto_region 22 with (fail)
            obtain ⟨W5, hW5⟩ : ∃ W5, W5 = w5.setCell ⟨N, 12, none⟩ (.int .i64 f) := ⟨_, rfl⟩
            rw [← hW5] at HF5 SF5 ⊢
            clear hW5 z12 k12

            have HFIN := Lib.hid (show s = goT i C F ⟨z, L, [], false, false⟩ from ((HGO.out.trans (if_pos (by rw [HSE.out]))).symm).trans HI2.out.2.2.2.2)
            have SA := Lib.hid (HS.out.trans SF5.out)
            obtain ⟨y, hy⟩ : ∃ y, y = t.z.tk := ⟨_, rfl⟩
            have HY := Lib.hid hy
            have hy1 : 0 ≤ y := by rw [hy, HI2.out.2.2.1]; exact HT.out.1
            have hy2 : y ≤ 1000000 := by rw [hy, HI2.out.2.2.1]; exact HT.out.2
            obtain ⟨⟨A9, n9, c9, hrm⟩, _, ⟨Ao, no, co, hob⟩, _⟩ := HF5.out
            have k11 : W5.cell? ⟨N, 11, none⟩ = some (.int .i64 t.z.tk) := hrm.blk.cell (i := 11) rfl
            rw [← hy] at k11
            have z11 := hrm.blk.frozen 11
            have hrb := SA.out.keep.blk HRB.out.1 (by rw [HRB.out.2]; exact ra_14)
            have hrl : ρk w.heap.size = .own 14 := by rw [SA.out.old _ HRB.out.1.lt]; exact HRB.out.2
            have HRL := Lib.hid hrl
            have HNR := Lib.hid (show N ≠ w.heap.size from fun e => by have h1 := hrm.ln; rw [e, hrl] at h1; injection h1 with h1; omega)
            have HT9 := Lib.hid (Rw.tks HF5.out (y + 1))
            have HO9 := Lib.hid (show Ob B (W5.setCell ⟨N, 11, none⟩ (.int .i64 (y + 1))) ρk (w.heap.size + 1) Ao no co _ _ from hob.carry (n_keep (k := 11) (x := .int .i64 (y + 1)) hrm) rl_12 rl_13)
            have HR9 := Lib.hid (show Blk (W5.setCell ⟨N, 11, none⟩ (.int .i64 (y + 1))) w.heap.size 53 [.slice none 0 0, .bool false] from hrb.far (fun e => HNR.out e.symm) _)
            clear hrm hob hrb hrl hy
            go_upto_region 23 with (fail)
            obtain ⟨W6, hW6⟩ : ∃ W6, W6 = (W5.setCell ⟨N, 11, none⟩ (.int .i64 (y + 1))) := ⟨_, rfl⟩
            rw [← hW6] at HT9 HO9 HR9 ⊢
            clear hW6 k11 z11
            have o0 := HO9.out.blk.cell (i := 0) rfl
            have o1 := HO9.out.blk.cell (i := 1) rfl
            have r0 := HR9.out.cell (i := 0) rfl
            have r1 := HR9.out.cell (i := 1) rfl
            have z0 := HR9.out.frozen 0
            have z1 := HR9.out.frozen 1
            go_wp2_with fail
            have hE := tick_end (rb := w.heap.size) (w := w) (ρ := ρ) HT9.out.1 HO9.out ((K2.out.trans (SA.out.mono fun l hl => .inl hl)).trans (HT9.out.2.mono fun l hl => .inl hl)) HR9.out HRL.out rfl true
            refine ret_row (g := w.heap.size) (cs := #[.slice Ao no co, .bool _]) Try.results14 rfl rfl hE.1 Try.underlying53 rfl size_rout ?_
            rw [HG.out, ← HFIN.out, HSE.out]
            have q9 := hE.2
            rw [HY.out] at q9
            exact q9
    · obtain rfl : k = F := by omega
      have HFIN := Lib.hid (show t = goT i C k ⟨z, L, [], false, false⟩ from by have q := HI2.out.2.2.2.2; rw [Nat.sub_self] at q; exact q)
      obtain ⟨WW, hWW⟩ : ∃ WW : World, WW = wr := ⟨_, rfl⟩
      rw [← hWW] at HM HS k4 hNl ⊢
      clear hWW
      go_upto_region 22 with (fail)
      clear k4 hNl
      have HSE := Lib.hid (show t = ⟨t.z, t.L, t.sn, t.cf, t.e⟩ from rfl)
      have HRF := Lib.hid (Stp.refl Ra HM.out.bd)

      have SA := Lib.hid (HS.out.trans HRF.out)
      obtain ⟨y, hy⟩ : ∃ y, y = t.z.tk := ⟨_, rfl⟩
      have HY := Lib.hid hy
      have hy1 : 0 ≤ y := by rw [hy, HI2.out.2.2.1]; exact HT.out.1
      have hy2 : y ≤ 1000000 := by rw [hy, HI2.out.2.2.1]; exact HT.out.2
      obtain ⟨⟨A9, n9, c9, hrm⟩, _, ⟨Ao, no, co, hob⟩, _⟩ := HM.out
      have k11 : WW.cell? ⟨N, 11, none⟩ = some (.int .i64 t.z.tk) := hrm.blk.cell (i := 11) rfl
      rw [← hy] at k11
      have z11 := hrm.blk.frozen 11
      have hrb := SA.out.keep.blk HRB.out.1 (by rw [HRB.out.2]; exact ra_14)
      have hrl : ρk w.heap.size = .own 14 := by rw [SA.out.old _ HRB.out.1.lt]; exact HRB.out.2
      have HRL := Lib.hid hrl
      have HNR := Lib.hid (show N ≠ w.heap.size from fun e => by have h1 := hrm.ln; rw [e, hrl] at h1; injection h1 with h1; omega)
      have HT9 := Lib.hid (Rw.tks HM.out (y + 1))
      have HO9 := Lib.hid (show Ob B (WW.setCell ⟨N, 11, none⟩ (.int .i64 (y + 1))) ρk (w.heap.size + 1) Ao no co _ _ from hob.carry (n_keep (k := 11) (x := .int .i64 (y + 1)) hrm) rl_12 rl_13)
      have HR9 := Lib.hid (show Blk (WW.setCell ⟨N, 11, none⟩ (.int .i64 (y + 1))) w.heap.size 53 [.slice none 0 0, .bool false] from hrb.far (fun e => HNR.out e.symm) _)
      clear hrm hob hrb hrl hy
      go_upto_region 23 with (fail)
      obtain ⟨W6, hW6⟩ : ∃ W6, W6 = (WW.setCell ⟨N, 11, none⟩ (.int .i64 (y + 1))) := ⟨_, rfl⟩
      rw [← hW6] at HT9 HO9 HR9 ⊢
      clear hW6 k11 z11
      have o0 := HO9.out.blk.cell (i := 0) rfl
      have o1 := HO9.out.blk.cell (i := 1) rfl
      have r0 := HR9.out.cell (i := 0) rfl
      have r1 := HR9.out.cell (i := 1) rfl
      have z0 := HR9.out.frozen 0
      have z1 := HR9.out.frozen 1
      go_wp2_with fail
      have hE := tick_end (rb := w.heap.size) (w := w) (ρ := ρ) HT9.out.1 HO9.out ((K2.out.trans (SA.out.mono fun l hl => .inl hl)).trans (HT9.out.2.mono fun l hl => .inl hl)) HR9.out HRL.out rfl t.e
      refine ret_row (g := w.heap.size) (cs := #[.slice Ao no co, .bool _]) Try.results14 rfl rfl hE.1 Try.underlying53 rfl size_rout ?_
      rw [HG.out, ← HFIN.out]
      have q9 := hE.2
      rw [HY.out] at q9
      exact q9
end
end Go.Proofs.Ytegnehdfedfphaa.VmrK
