/- The walk of StageActs. No conditions. -/
import Derived.Test.YthgmocipiknfpaaJ14
import Derived.Test.YthgmocipiknfpaaStgH
import Derived.Test.YthgmocipiknfpaaJ08
namespace Go.Proofs.Ythgmocipiknfpaa.StageActsW
open Go.RowKit Go.Proofs.Ythgmocipiknfpaa.Kit Go.Proofs.Ythgmocipiknfpaa.Byt Go.Proofs.Ythgmocipiknfpaa.Mem Go.Proofs.Ythgmocipiknfpaa.DskA Go.Proofs.Ythgmocipiknfpaa.DskE Go.Proofs.Ythgmocipiknfpaa.DskF Go.Proofs.Ythgmocipiknfpaa.RecM Go.Proofs.Ythgmocipiknfpaa.StgM Go.Proofs.Ythgmocipiknfpaa.StgP Go.Proofs.Ythgmocipiknfpaa.StgQ Go.Proofs.Ythgmocipiknfpaa.StgF Go.Proofs.Ythgmocipiknfpaa.StgI Go.Proofs.Ythgmocipiknfpaa.StgN Go.Proofs.Ythgmocipiknfpaa.StgJ Go.Proofs.Ythgmocipiknfpaa.StgK Go.Proofs.Ythgmocipiknfpaa.StgL Go.Proofs.Ythgmocipiknfpaa.Same Go.Proofs.Ythgmocipiknfpaa.StgC Go.Proofs.Ythgmocipiknfpaa.StgA Go.Proofs.Ythgmocipiknfpaa.StgB Go.Proofs.Ythgmocipiknfpaa.StgD Go.Proofs.Ythgmocipiknfpaa.StgV Go.Proofs.Ythgmocipiknfpaa.StgX Go.Proofs.Ythgmocipiknfpaa.PlaM
open Go.Proofs.Ythgmocipiknfpaa.RecA (n64 sval)
open Go.Proofs.Ythgmocipiknfpaa.DskB (newSt cnt zs new_any)
theorem make_bytes (n : Nat) (hn : n ≤ 1000) (w : World) : (Instr.makeSlice 43 (.int .i64 (n : Nat)) (.int .i64 (n : Nat))).run Try.prog w = .ok (.slice (some ⟨w.heap.size, 0, none⟩) n n) (w.alloc (.cells (u8n (List.replicate n 0)).toArray 5)) := by
  obtain ⟨i0, hi0, hz0, hz1, hz2⟩ := info_parts NumA.info8
  have h := run_make (P := Try.prog) w 43 5 i0 _ Try.underlying43 hi0 hz0 .i64 .i64 n n (by omega) (by omega) (by rw [hz2]; omega) (by omega)
  have hm : madeCells (Value.int .u8 0).cells ((n : Int).toNat * i0.size) = (u8n (List.replicate n 0)).toArray := by
    rw [hz1, Int.toNat_natCast, Nat.mul_one]
    apply Array.ext'
    show (madeCells #[Value.int .u8 0] n).toList = _
    rw [toList_madeCells_one]
    simp [u8n]
  rw [hm] at h
  exact h
theorem zeros_rd (w : World) : Rd (w.alloc (.cells (u8n (List.replicate 64 0)).toArray 5)) (some ⟨w.heap.size, 0, none⟩) 64 64 (u8n (List.replicate 64 0)) :=
  ⟨by simp [u8n], by omega, by omega, fun _ => ⟨w.heap.size, 0, rfl, by simp, fun j u hu => by
    rw [Nat.zero_add]
    exact (Blk.new w 5 (u8n (List.replicate 64 0))).cell hu⟩⟩
theorem new_ro {w : World} {F J : Nat → Prop} (hF : ∀ i, F i ∨ J i → i < w.heap.size) : Ro (w.alloc (.cells (hd Rf.none none 0 0).toArray 35)) F J w.heap.size Rf.none := by
  have hsz : (w.alloc (.cells (hd Rf.none none 0 0).toArray 35)).heap.size = w.heap.size + 1 := by simp
  refine ⟨fun i => i = w.heap.size, fun _ => False, ⟨[], none, 0, 0, ⟨Blk.new w 35 (hd Rf.none none 0 0), World.ownsRow_nil _ _ _ _, rfl, fun e he => (by cases he), rfl, fun k hk => (by cases hk), fun k hk => (by omega), fun k hk => hk.elim, fun k _ hk => hk⟩⟩, fun i hi hh => ?_⟩
  have := hF i hh
  rcases hi with hi | hi
  · omega
  · exact hi
theorem few {x : Rf} (h : x.wf) : x.bl.length ≤ 1000 := by
  cases hh : x.has
  · rw [h.no hh]; exact Nat.zero_le _
  · have := bl_len h hh; omega
set_option maxRecDepth 100000 in
set_option maxHeartbeats 12800000 in
theorem core (y : Nat) (A : Option Addr) (n c : Nat) (R : List Ac) (w : World) (hR : Acts w A n c R) (hy : y < 256) : Calls Try.prog 3 #[.int .u8 (y : Nat), .slice A n c] w fun e w' => e = .returned (.bool true) ∧ Below w.heap.size w w' := by
  have hn63 : n ≤ 9223372036854775807 := by have := hR.2.1; have := hR.2.2.1; omega
  have HA := Lib.hid hR
  clear hR
  by_cases h60 : 60 < n
  · go_enter Try.func3, Try.ntmps3
    go_wp2_with (go_at_call 7; refine (wakes_any _).mono ?_; rintro e w1 ⟨rfl, hb1⟩; have L1 := Lib.hid hb1; clear hb1)
    go_ret
    exact ⟨rfl, L1.out⟩
  · have h60' : ¬ (60 : Int) < (n : Int) := by omega
    obtain ⟨k, hk⟩ : ∃ k, k = y % 2 := ⟨_, rfl⟩
    have hyk : ((y : Int)).tmod 2 = (k : Int) := by rw [Int.tmod_eq_emod_of_nonneg (by omega)]; omega
    have hk1 : k ≤ 1 := by omega
    clear hk
    go_enter Try.func3, Try.ntmps3
    go_wp2_with (go_at_call 7; refine (wakes_any _).mono ?_; rintro e w1 ⟨rfl, hb1⟩; have L1 := Lib.hid hb1; clear hb1)
    refine (new_any 20 _).mono ?_
    rintro e w2 ⟨g, F2, rfl, hD2, hbl2, hf2⟩
    have HD2 := Lib.hid hD2
    have L2 := Lib.hid (L1.out.trans (hbl2.mono L1.out.size))
    have HF2 := Lib.hid (fun i hi => Nat.le_trans L1.out.size (hf2 i hi))
    clear hD2 hbl2 hf2
    go_wp2_with fail
    refine (open_any F2 g (newSt 20) 1 k w2 HD2.out (by omega) (by omega) (by rw [new_len, show cnt 20 = 20 from rfl]; omega) rfl (by simp [newSt]) (Put2.new_byts 20)).mono ?_
    rintro e w3 ⟨a, J3, rfl, hS3, hJ3, hb3⟩
    have R3 := Lib.hid (fr_new (w0 := w) (p := 1) (k := k) HD2.out HF2.out L2.out (by omega) (by omega) (by rw [show cnt 20 = 20 from rfl]; omega) hS3 hJ3 hb3)
    have hal : ∃ t, Al w (w3.alloc (.cells #[.bool false, .int .i64 0, .int .i64 0, .int .i64 0, .slice none 0 0] 35)) F2 J3 g a w3.heap.size (newSt 20) t Rf.none none none ∧ Lw (newSt 20).S (newSt 20) t Rf.none none ∧ t.p = 1 ∧ t.k = k := by
      obtain ⟨t, h1, h2, h3⟩ := R3.out.ex
      have hb : Below w3.heap.size w3 (w3.alloc (.cells #[.bool false, .int .i64 0, .int .i64 0, .int .i64 0, .slice none 0 0] 35)) := (Below.refl _ _).alloc (Nat.le_refl _) _
      exact ⟨t, ⟨⟨h1.dk.below hb, h1.sm.keep (Keep.of_below (F := fun _ => False) hb) (fun _ _ h => h), h1.dis, h1.most, h1.fits⟩, new_ro (fun i hi => R3.out.lt i hi), trivial, R3.out.low, R3.out.bel.trans (hb.mono R3.out.bel.size)⟩, h2, h3⟩
    obtain ⟨t0, hal0, hlw0, htp0⟩ := hal
    have AL0 := Lib.hid hal0
    have LW0 := Lib.hid hlw0
    have TP0 := Lib.hid htp0
    obtain ⟨S0, hS0⟩ : ∃ S, S = (newSt 20).S := ⟨_, rfl⟩
    rw [← hS0] at LW0
    have HS0 := Lib.hid hS0
    clear hS3 hJ3 hb3 HD2 L2 HF2 R3 hal0 hlw0 htp0 hS0
    go_wp2_with fail
    go_loopw [7, 9, 10, 43] (fun v7 v9 v10 i' wr => ∃ (j : Nat) (F J : Nat → Prop) (a ax : Nat) (s : St) (t : Slt) (x : Rf) (m : Option Rf) (q : Option Nat), j ≤ n ∧ v7 = .pointer (some ⟨a, 0, none⟩) ∧ v9 = .pointer (some ⟨ax, 0, none⟩) ∧ v10 = .pointer (q.map fun b => ⟨b, 0, none⟩) ∧ i' = .int .i64 j ∧ Hid (Al w wr F J g a ax s t x m q) ∧ Hid (Lw S0 s t x m) ∧ Hid (t.p = 1 ∧ t.k = k)) (fun _ _ _ i' _ => n - (intOf i').toNat)
    case atStart => exact ⟨0, F2, J3, a, w3.heap.size, newSt 20, t0, Rf.none, none, none, by omega, rfl, rfl, rfl, rfl, AL0, LW0, TP0⟩
    case round =>
      clear AL0 LW0 TP0
      obtain ⟨j, F, J, a, ax, s, t, x, m, q, hj, rfl, rfl, rfl, rfl, HAL, HLW, HPK⟩ := hrel
      by_cases hlt : j < n
      · obtain ⟨r, b, o, hr, hm, hok, hA, hb, q0, q1, q2, q3, q4, q5, q6⟩ := (HA.out.below HAL.out.bel).at_ hlt
        subst hA
        obtain ⟨rk, rn, rz, rno, rb, rl, rkp⟩ := r
        dsimp only at q0 q1 q2 q3 q4 q5 q6
        have HC := Lib.hid hok
        have HB := Lib.hid (HAL.out.below ((Below.refl _ _).alloc (Nat.le_refl _) (.cells #[.int .i64 rk, .int .i64 rn, .int .i64 rz, .int .i64 rno, .int .u8 (rb : Nat), .bool rl, .int .u64 (rkp : Nat)] 38)))
        have HX := Lib.hid (Blk.new wr 38 [.int .i64 rk, .int .i64 rn, .int .i64 rz, .int .i64 rno, .int .u8 (rb : Nat), .bool rl, .int .u64 (rkp : Nat)])
        have HX' : Hid (Blk (wr.alloc (.cells #[.int .i64 rk, .int .i64 rn, .int .i64 rz, .int .i64 rno, .int .u8 (rb : Nat), .bool rl, .int .u64 (rkp : Nat)] 38)) wr.heap.size 38 [.int .i64 rk, .int .i64 rn, .int .i64 rz, .int .i64 rno, .int .u8 (rb : Nat), .bool rl, .int .u64 (rkp : Nat)]) := HX
        have HLT := Lib.hid HAL.out.lt
        clear hr hm hok HAL HX
        go_upto_region 14 with (fail)
        clear q0 q1 q2 q3 q4 q5 q6 hb
        generalize wr.alloc (.cells #[.int .i64 rk, .int .i64 rn, .int .i64 rz, .int .i64 rno, .int .u8 (rb : Nat), .bool rl, .int .u64 (rkp : Nat)] 38) = wB at *
        have hFJ0 := Lib.hid (show ¬ (F wr.heap.size ∨ J wr.heap.size) from fun h => by have := HLT.out _ h; omega)
        clear HLT
        generalize wr.heap.size = bx at *
        have p0 := HX'.out.cell (i := 0) rfl
        have hgl := HX'.out.lt
        by_cases hk0 : rk = 0
        · subst hk0
          obtain ⟨ac, hac⟩ : ∃ ac : Ac, ac = ⟨0, rn, rz, rno, rb, rl, rkp⟩ := ⟨_, rfl⟩
          obtain ⟨H, N, ⟨E, A', n', c', hRS⟩, hnt⟩ := HB.out.rx
          obtain ⟨y0, y1, y2, y3, y4⟩ := hRS.cells
          have HRS := Lib.hid hRS
          have HNT := Lib.hid hnt
          have hax := hRS.head.lt
          clear hRS hnt
          have HAC := Lib.hid hac
          have HOK : Hid ac.ok := Lib.hid (by rw [hac]; exact HC.out)
          have HLA := Lib.hid (HLW.out.act ac (fb_byt _ _))
          have HPL := Lib.hid (HLW.out.place ac)
          clear hac
          go_wp2_with fail
          refine (rcopy_any x E A' n' c' wB (Rd.own HRS.out.own) (by rw [← HRS.out.len]; exact few HLW.out.wf)).mono ?_
          rintro e w4 ⟨An, nn, cn, rfl, ho4, hb4⟩
          obtain ⟨H2, hR2, hH2⟩ := copy_rs HRS.out ho4 hb4
          rw [show (hd x An nn cn).toArray = #[.bool x.has, .int .i64 x.g.s, .int .i64 x.g.z, .int .i64 x.g.h, .slice An nn cn] from rfl]
          have HR2 : Hid (RSl (w4.alloc (.cells #[.bool x.has, .int .i64 x.g.s, .int .i64 x.g.z, .int .i64 x.g.h, .slice An nn cn] 35)) H2 N w4.heap.size x) := Lib.hid hR2
          have HH2 := Lib.hid hH2
          have HB4 : Hid (Below wB.heap.size wB (w4.alloc (.cells #[.bool x.has, .int .i64 x.g.s, .int .i64 x.g.z, .int .i64 x.g.h, .slice An nn cn] 35))) := Lib.hid (hb4.alloc hb4.size _)
          clear ho4 hb4 hR2 hH2 HRS y0 y1 y2 y3 y4 hax p0 hgl
          go_upto_region 19 with (fail)
          generalize (w4.alloc (.cells #[.bool x.has, .int .i64 x.g.s, .int .i64 x.g.z, .int .i64 x.g.h, .slice An nn cn] 35)) = wN at *
          generalize w4.heap.size = bn at *
          have HX4 := Lib.hid (HX'.out.below HB4.out)
          have p0 := HX4.out.cell (i := 0) rfl
          have p1 := HX4.out.cell (i := 1) rfl
          have p2 := HX4.out.cell (i := 2) rfl
          have p3 := HX4.out.cell (i := 3) rfl
          have p4 := HX4.out.cell (i := 4) rfl
          have p5 := HX4.out.cell (i := 5) rfl
          have p6 := HX4.out.cell (i := 6) rfl
          have hgl := HX4.out.lt
          go_wp2_with fail
          refine (do_any H2 N bn x ⟨0, rn, rz, rno, rb, rl, rkp⟩ wN HR2.out HLW.out.wf HC.out).mono ?_
          intro e w5 hgo
          rw [← HAC.out] at hgo
          obtain ⟨rfl, hRo, hk5⟩ := Ro.of hgo HH2.out (fun i hi => HNT.out i (.inr hi)) HB.out.lt HB4.out.size
          have HB5 := Lib.hid (HB4.out.trans (hk5.below HH2.out HB4.out.size))
          have HAL5 := Lib.hid (HB.out.below HB5.out)
          have HRo := Lib.hid hRo
          have HX5 := Lib.hid (HX'.out.below HB5.out)
          obtain ⟨fc, hfc⟩ : ∃ f, f = (rD x ac).2 := ⟨_, rfl⟩
          obtain ⟨x2, hx2⟩ : ∃ f, f = (rD x ac).1 := ⟨_, rfl⟩
          rw [← hx2] at HRo
          rw [← hfc, ← hx2] at HLA
          rw [← hfc]
          clear hgo hk5 hRo hfc hx2 p0 p1 p2 p3 p4 p5 p6 hgl HX4 HB4 HR2 HH2 HNT
          have p0 := HX5.out.cell (i := 0) rfl
          have p1 := HX5.out.cell (i := 1) rfl
          have p2 := HX5.out.cell (i := 2) rfl
          have p3 := HX5.out.cell (i := 3) rfl
          have p4 := HX5.out.cell (i := 4) rfl
          have p5 := HX5.out.cell (i := 5) rfl
          have hgl := HX5.out.lt
          obtain ⟨gc, hgc⟩ : ∃ f, f = (pA s t ac).2.2 := ⟨_, rfl⟩
          obtain ⟨s', hs'⟩ : ∃ f, f = (pA s t ac).1 := ⟨_, rfl⟩
          obtain ⟨t', ht'⟩ : ∃ f, f = (pA s t ac).2.1 := ⟨_, rfl⟩
          rw [← hgc, ← hs', ← ht'] at HLA
          rw [← ht'] at HPL
          have HLM : Hid (t'.at_ + 4 ≤ s'.S.length ∧ s'.L.length ≤ 1) := Lib.hid (by
            by_cases h8 : gc = 8
            · exact ⟨(HLA.out.2 h8).len, (HLA.out.2 h8).most⟩
            · exact ⟨(HLA.out.1 h8).2.len, (HLA.out.1 h8).2.most⟩)
          have HCALL := Lib.hid (show ∀ w5, DS w5 F J g a s t → Calls Try.prog 12 #[.pointer (some ⟨a, 0, none⟩), .int .i64 rn, .int .i64 rz] w5 (Sgo F J g a w5 (.int .i64 gc) s' t') from fun w5 h => by
            have hh := begin_any F J g a s t rn rz w5 h HC.out.n HC.out.z
            have e : pA s t ac = pB s t rn rz := by rw [HAC.out]; exact if_pos rfl
            rw [hgc, hs', ht', e]; exact hh)
          clear hgc hs' ht'
          go_wp2_with fail
          refine (HCALL.out _ HAL5.out.ds).mono ?_
          intro e w6 hg6
          obtain ⟨rfl, F6, J6, hAL6, hk6, hgo6⟩ := Al.step HAL5.out hg6 HPL.out.1 HPL.out.2 HLM.out.1 HLM.out.2
          have HAL6 := Lib.hid hAL6
          have HRo6 := Lib.hid (HRo.out.step hk6 hgo6)
          clear hg6 hAL6 hk6 hgo6
          have HPK6 := Lib.hid (show t'.p = 1 ∧ t'.k = k from ⟨HPL.out.1.trans HPK.out.1, HPL.out.2.trans HPK.out.2⟩)
          clear HCALL HAL5 HRo HX5 p0 p1 p2 p3 p4 p5 hgl HPL HPK HB HLW HLM
          by_cases h8 : gc = 8
          · have HL6 := Lib.hid (HLA.out.2 h8)
            subst h8
            clear HLA
            by_cases hf : fc = 0
            · subst hf
              cases m with
              | none =>
                cases q with
                | some b => exact (HAL6.out.mo).elim
                | none =>
                  go_wp2
                  go_roundw
                  case rel => exact ⟨j + 1, F6, J6, a, ax, s', t', x, some x2, some bn, by omega, rfl, rfl, rfl, by go_num, Lib.hid ⟨HAL6.out.ds, HAL6.out.rx, HRo6.out, HAL6.out.low, HAL6.out.bel⟩, Lib.hid (by simpa using HL6.out), HPK6⟩
                  case measure => simp [intOf]; omega
              | some y =>
                cases q with
                | none => exact (HAL6.out.mo).elim
                | some b =>
                  go_wp2
                  go_roundw
                  case rel => exact ⟨j + 1, F6, J6, a, ax, s', t', x, some y, some b, by omega, rfl, rfl, rfl, by go_num, HAL6, Lib.hid (by simpa using HL6.out), HPK6⟩
                  case measure => simp [intOf]; omega
            · have ef : (fc == 0) = false := by simpa using hf
              have HL7 := Lib.hid (show Lw S0 s' t' x m from by have h := HL6.out; rw [if_neg (fun e => hf e.1)] at h; exact h)
              clear hf HL6
              go_wp2
              go_roundw
              case rel => exact ⟨j + 1, F6, J6, a, ax, s', t', x, m, q, by omega, rfl, rfl, rfl, by go_num, HAL6, HL7, HPK6⟩
              case measure => simp [intOf]; omega
          · obtain ⟨h9, hl6⟩ := HLA.out.1 h8
            subst h9
            have HL6 := Lib.hid hl6
            have e8 : (gc == 8) = false := by simpa using h8
            have hdn : s'.down = m.isSome := hl6.down
            clear h8 hl6 HLA
            cases m with
            | none =>
              have hdn' : s'.down = false := hdn
              clear hdn
              go_wp2_with (go_at_call 19; refine (down_any F6 g s' _ HAL6.out.ds.dk).mono ?_; rintro e w7 ⟨rfl, rfl⟩; rw [hdn'])
              obtain ⟨HH, NN, h1, _⟩ := HRo6.out
              refine (Go.Proofs.Ythgmocipiknfpaa.StgH.same_any F6 J6 HH NN g a bn s' t' x2 _ HAL6.out.ds h1 HL6.out.wf HL6.out.no HL6.out.right true ⟨fun _ => HL6.out.same, fun _ => rfl⟩).mono ?_
              rintro e w7 ⟨rfl, hb7⟩
              have HAL7 := Lib.hid (HAL6.out.below hb7)
              have HRo7 := Lib.hid (HRo6.out.below hb7)
              clear hb7 HAL6 HRo6 h1
              go_wp2
              go_roundw
              case rel => exact ⟨j + 1, F6, J6, a, bn, s', t', x2, none, q, by omega, rfl, rfl, rfl, by go_num, Lib.hid ⟨HAL7.out.ds, HRo7.out, HAL7.out.mo, HAL7.out.low, HAL7.out.bel⟩, HL6, HPK6⟩
              case measure => simp [intOf]; omega
            | some y =>
              have hdn' : s'.down = true := hdn
              clear hdn
              go_wp2_with (go_at_call 19; refine (down_any F6 g s' _ HAL6.out.ds.dk).mono ?_; rintro e w7 ⟨rfl, rfl⟩; rw [hdn'])
              refine ⟨⟨j + 1, F6, J6, a, bn, s', t', x2, some y, q, by omega, rfl, rfl, rfl, by go_num, Lib.hid ⟨HAL6.out.ds, HRo6.out, HAL6.out.mo, HAL6.out.low, HAL6.out.bel⟩, HL6, HPK6⟩, ?_⟩
              simp [intOf]; omega
        · have e0 : (rk == 0) = false := by simpa using hk0
          by_cases hk1' : rk = 1
          · subst hk1'
            clear e0 hk0
            obtain ⟨ac, hac⟩ : ∃ ac : Ac, ac = ⟨1, rn, rz, rno, rb, rl, rkp⟩ := ⟨_, rfl⟩
            obtain ⟨H, N, ⟨E, A', n', c', hRS⟩, hnt⟩ := HB.out.rx
            obtain ⟨y0, y1, y2, y3, y4⟩ := hRS.cells
            have HRS := Lib.hid hRS
            have HNT := Lib.hid hnt
            have hax := hRS.head.lt
            clear hRS hnt
            have HAC := Lib.hid hac
            have HOK : Hid ac.ok := Lib.hid (by rw [hac]; exact HC.out)
            have HLA := Lib.hid (HLW.out.act ac (fb_byt _ _))
            have HPL := Lib.hid (HLW.out.place ac)
            clear hac
            go_wp2_with fail
            refine (rcopy_any x E A' n' c' wB (Rd.own HRS.out.own) (by rw [← HRS.out.len]; exact few HLW.out.wf)).mono ?_
            rintro e w4 ⟨An, nn, cn, rfl, ho4, hb4⟩
            obtain ⟨H2, hR2, hH2⟩ := copy_rs HRS.out ho4 hb4
            rw [show (hd x An nn cn).toArray = #[.bool x.has, .int .i64 x.g.s, .int .i64 x.g.z, .int .i64 x.g.h, .slice An nn cn] from rfl]
            have HR2 : Hid (RSl (w4.alloc (.cells #[.bool x.has, .int .i64 x.g.s, .int .i64 x.g.z, .int .i64 x.g.h, .slice An nn cn] 35)) H2 N w4.heap.size x) := Lib.hid hR2
            have HH2 := Lib.hid hH2
            have HB4 : Hid (Below wB.heap.size wB (w4.alloc (.cells #[.bool x.has, .int .i64 x.g.s, .int .i64 x.g.z, .int .i64 x.g.h, .slice An nn cn] 35))) := Lib.hid (hb4.alloc hb4.size _)
            clear ho4 hb4 hR2 hH2 HRS y0 y1 y2 y3 y4 hax p0 hgl
            go_upto_region 19 with (fail)
            generalize (w4.alloc (.cells #[.bool x.has, .int .i64 x.g.s, .int .i64 x.g.z, .int .i64 x.g.h, .slice An nn cn] 35)) = wN at *
            generalize w4.heap.size = bn at *
            have HX4 := Lib.hid (HX'.out.below HB4.out)
            have p0 := HX4.out.cell (i := 0) rfl
            have p1 := HX4.out.cell (i := 1) rfl
            have p2 := HX4.out.cell (i := 2) rfl
            have p3 := HX4.out.cell (i := 3) rfl
            have p4 := HX4.out.cell (i := 4) rfl
            have p5 := HX4.out.cell (i := 5) rfl
            have p6 := HX4.out.cell (i := 6) rfl
            have hgl := HX4.out.lt
            go_wp2_with fail
            refine (do_any H2 N bn x ⟨1, rn, rz, rno, rb, rl, rkp⟩ wN HR2.out HLW.out.wf HC.out).mono ?_
            intro e w5 hgo
            rw [← HAC.out] at hgo
            obtain ⟨rfl, hRo, hk5⟩ := Ro.of hgo HH2.out (fun i hi => HNT.out i (.inr hi)) HB.out.lt HB4.out.size
            have HB5 := Lib.hid (HB4.out.trans (hk5.below HH2.out HB4.out.size))
            have HAL5 := Lib.hid (HB.out.below HB5.out)
            have HRo := Lib.hid hRo
            have HX5 := Lib.hid (HX'.out.below HB5.out)
            obtain ⟨fc, hfc⟩ : ∃ f, f = (rD x ac).2 := ⟨_, rfl⟩
            obtain ⟨x2, hx2⟩ : ∃ f, f = (rD x ac).1 := ⟨_, rfl⟩
            rw [← hx2] at HRo
            rw [← hfc, ← hx2] at HLA
            rw [← hfc]
            clear hgo hk5 hRo hfc hx2 p0 p1 p2 p3 p4 p5 p6 hgl HX4 HB4 HR2 HH2 HNT
            have p0 := HX5.out.cell (i := 0) rfl
            have p1 := HX5.out.cell (i := 1) rfl
            have p2 := HX5.out.cell (i := 2) rfl
            have p3 := HX5.out.cell (i := 3) rfl
            have p4 := HX5.out.cell (i := 4) rfl
            have p5 := HX5.out.cell (i := 5) rfl
            have hgl := HX5.out.lt
            obtain ⟨gc, hgc⟩ : ∃ f, f = (pA s t ac).2.2 := ⟨_, rfl⟩
            obtain ⟨s', hs'⟩ : ∃ f, f = (pA s t ac).1 := ⟨_, rfl⟩
            obtain ⟨t', ht'⟩ : ∃ f, f = (pA s t ac).2.1 := ⟨_, rfl⟩
            rw [← hgc, ← hs', ← ht'] at HLA
            rw [← ht'] at HPL
            have HLM : Hid (t'.at_ + 4 ≤ s'.S.length ∧ s'.L.length ≤ 1) := Lib.hid (by
              by_cases h8 : gc = 8
              · exact ⟨(HLA.out.2 h8).len, (HLA.out.2 h8).most⟩
              · exact ⟨(HLA.out.1 h8).2.len, (HLA.out.1 h8).2.most⟩)
            have hFI := fun w' => fill_rd HC.out.b rl w'
            obtain ⟨bs, hbs⟩ : ∃ bs, bs = fb rb (if rl then 17 else 16) := ⟨_, rfl⟩
            have HBY := Lib.hid (show byt bs from by rw [hbs]; exact fb_byt _ _)
            have HCALL := Lib.hid (show ∀ w5 D m d, DS w5 F J g a s t → Rd w5 D m d (u8n bs) → (∀ b o, D = some ⟨b, o, none⟩ → ¬ (F b ∨ J b)) → Calls Try.prog 13 #[.pointer (some ⟨a, 0, none⟩), .int .i64 rn, .int .i64 rno, .slice D m d] w5 (Sgo F J g a w5 (.int .i64 gc) s' t') from fun w5 D m d h hr hd => by
              have hh := put_any F J g a s t rn rno D m d bs w5 h HC.out.n HC.out.no HLW.out.right hr HBY.out (fun b o e => ⟨fun hh => hd b o e (.inl hh), fun hh => hd b o e (.inr hh)⟩)
              have e : pA s t ac = pP s t rn rno bs := by rw [HAC.out, hbs]; rfl
              rw [hgc, hs', ht', e]; exact hh)
            simp only [← hbs] at hFI
            have HFI := Lib.hid hFI
            have HFJ := Lib.hid hFJ0.out
            clear hgc hs' ht' hbs hFI
            go_wp2_with fail
            go_region_held3 (fun w' => w'.cell? ⟨bx, 1, none⟩ = some (.int .i64 rn) ∧ w'.cell? ⟨bx, 3, none⟩ = some (.int .i64 rno) ∧ w'.cell? ⟨bx, 4, none⟩ = some (.int .u8 (rb : Nat)) ∧ w'.cell? ⟨bx, 5, none⟩ = some (.bool rl)) (first | go_keep | exact HXp.out | exact HXf.out)
              (first
               | (go_at_call 14; refine (HFI.out _).mono ?_; rintro e wf ⟨D, m', d, rfl, hr, hDD, hbf⟩; have hbw := (((Below.refl w5.heap.size w5).drew).trans hbf); have HXf := Lib.hid (show wf.cell? ⟨bx, 1, none⟩ = some (.int .i64 rn) ∧ wf.cell? ⟨bx, 3, none⟩ = some (.int .i64 rno) ∧ wf.cell? ⟨bx, 4, none⟩ = some (.int .u8 (rb : Nat)) ∧ wf.cell? ⟨bx, 5, none⟩ = some (.bool rl) from ⟨(HX5.out.below hbw).cell rfl, (HX5.out.below hbw).cell rfl, (HX5.out.below hbw).cell rfl, (HX5.out.below hbw).cell rfl⟩); have HALf := Lib.hid (HAL5.out.below hbw); have HNf := Lib.hid (HAL5.out.newer (D := D) hDD); have HDf := Lib.hid hr; have HBf := Lib.hid (HX5.out.below hbw); have HRof := Lib.hid (HRo.out.below hbw); clear hr hbw hbf hDD)
               | (go_at_call 13; refine (HCALL.out _ _ _ _ HALf.out.ds HDf.out HNf.out).mono ?_; intro e w6 hg6; obtain ⟨rfl, F6, J6, hAL6, hk6, hgo6⟩ := Al.step HALf.out hg6 HPL.out.1 HPL.out.2 HLM.out.1 HLM.out.2; have HAL6 := Lib.hid hAL6; have HRo6 := Lib.hid (HRof.out.step hk6 hgo6); have hBp := hk6.blk HBf.out HFJ.out; have HXp := Lib.hid (show w6.cell? ⟨bx, 1, none⟩ = some (.int .i64 rn) ∧ w6.cell? ⟨bx, 3, none⟩ = some (.int .i64 rno) ∧ w6.cell? ⟨bx, 4, none⟩ = some (.int .u8 (rb : Nat)) ∧ w6.cell? ⟨bx, 5, none⟩ = some (.bool rl) from ⟨hBp.cell rfl, hBp.cell rfl, hBp.cell rfl, hBp.cell rfl⟩); clear hg6 hAL6 hk6 hgo6 hBp))
            all_goals
              have HPK6 := Lib.hid (show t'.p = 1 ∧ t'.k = k from ⟨HPL.out.1.trans HPK.out.1, HPL.out.2.trans HPK.out.2⟩)
              clear HCALL HAL5 HRo HX5 p0 p1 p2 p3 p4 p5 hgl HPL HPK HB HLW HLM
              by_cases h8 : gc = 8
              · have HL6 := Lib.hid (HLA.out.2 h8)
                subst h8
                clear HLA
                by_cases hf : fc = 0
                · subst hf
                  cases m with
                  | none =>
                    cases q with
                    | some b => exact (HAL6.out.mo).elim
                    | none =>
                      go_wp2
                      go_roundw
                      case rel => exact ⟨j + 1, F6, J6, a, ax, s', t', x, some x2, some bn, by omega, rfl, rfl, rfl, by go_num, Lib.hid ⟨HAL6.out.ds, HAL6.out.rx, HRo6.out, HAL6.out.low, HAL6.out.bel⟩, Lib.hid (by simpa using HL6.out), HPK6⟩
                      case measure => simp [intOf]; omega
                  | some y =>
                    cases q with
                    | none => exact (HAL6.out.mo).elim
                    | some b =>
                      go_wp2
                      go_roundw
                      case rel => exact ⟨j + 1, F6, J6, a, ax, s', t', x, some y, some b, by omega, rfl, rfl, rfl, by go_num, HAL6, Lib.hid (by simpa using HL6.out), HPK6⟩
                      case measure => simp [intOf]; omega
                · have ef : (fc == 0) = false := by simpa using hf
                  have HL7 := Lib.hid (show Lw S0 s' t' x m from by have h := HL6.out; rw [if_neg (fun e => hf e.1)] at h; exact h)
                  clear hf HL6
                  go_wp2
                  go_roundw
                  case rel => exact ⟨j + 1, F6, J6, a, ax, s', t', x, m, q, by omega, rfl, rfl, rfl, by go_num, HAL6, HL7, HPK6⟩
                  case measure => simp [intOf]; omega
              · obtain ⟨h9, hl6⟩ := HLA.out.1 h8
                subst h9
                have HL6 := Lib.hid hl6
                have e8 : (gc == 8) = false := by simpa using h8
                have hdn : s'.down = m.isSome := hl6.down
                clear h8 hl6 HLA
                cases m with
                | none =>
                  have hdn' : s'.down = false := hdn
                  clear hdn
                  go_wp2_with (go_at_call 19; refine (down_any F6 g s' _ HAL6.out.ds.dk).mono ?_; rintro e w7 ⟨rfl, rfl⟩; rw [hdn'])
                  obtain ⟨HH, NN, h1, _⟩ := HRo6.out
                  refine (Go.Proofs.Ythgmocipiknfpaa.StgH.same_any F6 J6 HH NN g a bn s' t' x2 _ HAL6.out.ds h1 HL6.out.wf HL6.out.no HL6.out.right true ⟨fun _ => HL6.out.same, fun _ => rfl⟩).mono ?_
                  rintro e w7 ⟨rfl, hb7⟩
                  have HAL7 := Lib.hid (HAL6.out.below hb7)
                  have HRo7 := Lib.hid (HRo6.out.below hb7)
                  clear hb7 HAL6 HRo6 h1
                  go_wp2
                  go_roundw
                  case rel => exact ⟨j + 1, F6, J6, a, bn, s', t', x2, none, q, by omega, rfl, rfl, rfl, by go_num, Lib.hid ⟨HAL7.out.ds, HRo7.out, HAL7.out.mo, HAL7.out.low, HAL7.out.bel⟩, HL6, HPK6⟩
                  case measure => simp [intOf]; omega
                | some y =>
                  have hdn' : s'.down = true := hdn
                  clear hdn
                  go_wp2_with (go_at_call 19; refine (down_any F6 g s' _ HAL6.out.ds.dk).mono ?_; rintro e w7 ⟨rfl, rfl⟩; rw [hdn'])
                  refine ⟨⟨j + 1, F6, J6, a, bn, s', t', x2, some y, q, by omega, rfl, rfl, rfl, by go_num, Lib.hid ⟨HAL6.out.ds, HRo6.out, HAL6.out.mo, HAL6.out.low, HAL6.out.bel⟩, HL6, HPK6⟩, ?_⟩
                  simp [intOf]; omega
          · have e1 : (rk == 1) = false := by simpa using hk1'
            by_cases hk2 : rk = 2
            · subst hk2
              clear e0 e1 hk0 hk1'
              obtain ⟨ac, hac⟩ : ∃ ac : Ac, ac = ⟨2, rn, rz, rno, rb, rl, rkp⟩ := ⟨_, rfl⟩
              obtain ⟨H, N, ⟨E, A', n', c', hRS⟩, hnt⟩ := HB.out.rx
              obtain ⟨y0, y1, y2, y3, y4⟩ := hRS.cells
              have HRS := Lib.hid hRS
              have HNT := Lib.hid hnt
              have hax := hRS.head.lt
              clear hRS hnt
              have HAC := Lib.hid hac
              have HOK : Hid ac.ok := Lib.hid (by rw [hac]; exact HC.out)
              have HLA := Lib.hid (HLW.out.act ac (fb_byt _ _))
              have HPL := Lib.hid (HLW.out.place ac)
              clear hac
              go_wp2_with fail
              refine (rcopy_any x E A' n' c' wB (Rd.own HRS.out.own) (by rw [← HRS.out.len]; exact few HLW.out.wf)).mono ?_
              rintro e w4 ⟨An, nn, cn, rfl, ho4, hb4⟩
              obtain ⟨H2, hR2, hH2⟩ := copy_rs HRS.out ho4 hb4
              rw [show (hd x An nn cn).toArray = #[.bool x.has, .int .i64 x.g.s, .int .i64 x.g.z, .int .i64 x.g.h, .slice An nn cn] from rfl]
              have HR2 : Hid (RSl (w4.alloc (.cells #[.bool x.has, .int .i64 x.g.s, .int .i64 x.g.z, .int .i64 x.g.h, .slice An nn cn] 35)) H2 N w4.heap.size x) := Lib.hid hR2
              have HH2 := Lib.hid hH2
              have HB4 : Hid (Below wB.heap.size wB (w4.alloc (.cells #[.bool x.has, .int .i64 x.g.s, .int .i64 x.g.z, .int .i64 x.g.h, .slice An nn cn] 35))) := Lib.hid (hb4.alloc hb4.size _)
              clear ho4 hb4 hR2 hH2 HRS y0 y1 y2 y3 y4 hax p0 hgl
              go_upto_region 19 with (fail)
              generalize (w4.alloc (.cells #[.bool x.has, .int .i64 x.g.s, .int .i64 x.g.z, .int .i64 x.g.h, .slice An nn cn] 35)) = wN at *
              generalize w4.heap.size = bn at *
              have HX4 := Lib.hid (HX'.out.below HB4.out)
              have p0 := HX4.out.cell (i := 0) rfl
              have p1 := HX4.out.cell (i := 1) rfl
              have p2 := HX4.out.cell (i := 2) rfl
              have p3 := HX4.out.cell (i := 3) rfl
              have p4 := HX4.out.cell (i := 4) rfl
              have p5 := HX4.out.cell (i := 5) rfl
              have p6 := HX4.out.cell (i := 6) rfl
              have hgl := HX4.out.lt
              go_wp2_with fail
              refine (do_any H2 N bn x ⟨2, rn, rz, rno, rb, rl, rkp⟩ wN HR2.out HLW.out.wf HC.out).mono ?_
              intro e w5 hgo
              rw [← HAC.out] at hgo
              obtain ⟨rfl, hRo, hk5⟩ := Ro.of hgo HH2.out (fun i hi => HNT.out i (.inr hi)) HB.out.lt HB4.out.size
              have HB5 := Lib.hid (HB4.out.trans (hk5.below HH2.out HB4.out.size))
              have HAL5 := Lib.hid (HB.out.below HB5.out)
              have HRo := Lib.hid hRo
              have HX5 := Lib.hid (HX'.out.below HB5.out)
              obtain ⟨fc, hfc⟩ : ∃ f, f = (rD x ac).2 := ⟨_, rfl⟩
              obtain ⟨x2, hx2⟩ : ∃ f, f = (rD x ac).1 := ⟨_, rfl⟩
              rw [← hx2] at HRo
              rw [← hfc, ← hx2] at HLA
              rw [← hfc]
              clear hgo hk5 hRo hfc hx2 p0 p1 p2 p3 p4 p5 p6 hgl HX4 HB4 HR2 HH2 HNT
              have p0 := HX5.out.cell (i := 0) rfl
              have p1 := HX5.out.cell (i := 1) rfl
              have p2 := HX5.out.cell (i := 2) rfl
              have p3 := HX5.out.cell (i := 3) rfl
              have p4 := HX5.out.cell (i := 4) rfl
              have p5 := HX5.out.cell (i := 5) rfl
              have hgl := HX5.out.lt
              obtain ⟨gc, hgc⟩ : ∃ f, f = (pA s t ac).2.2 := ⟨_, rfl⟩
              obtain ⟨s', hs'⟩ : ∃ f, f = (pA s t ac).1 := ⟨_, rfl⟩
              obtain ⟨t', ht'⟩ : ∃ f, f = (pA s t ac).2.1 := ⟨_, rfl⟩
              rw [← hgc, ← hs', ← ht'] at HLA
              rw [← ht'] at HPL
              have HLM : Hid (t'.at_ + 4 ≤ s'.S.length ∧ s'.L.length ≤ 1) := Lib.hid (by
                by_cases h8 : gc = 8
                · exact ⟨(HLA.out.2 h8).len, (HLA.out.2 h8).most⟩
                · exact ⟨(HLA.out.1 h8).2.len, (HLA.out.1 h8).2.most⟩)
              have HCALL := Lib.hid (show ∀ w5, DS w5 F J g a s t → Calls Try.prog 15 #[.pointer (some ⟨a, 0, none⟩)] w5 (Sgo F J g a w5 (.int .i64 gc) s' t') from fun w5 h => by
                have hh := clear_any F J g a s t w5 h
                have e : pA s t ac = pC s t := by rw [HAC.out]; rfl
                rw [hgc, hs', ht', e]; exact hh)
              clear hgc hs' ht'
              go_wp2_with fail
              refine (HCALL.out _ HAL5.out.ds).mono ?_
              intro e w6 hg6
              obtain ⟨rfl, F6, J6, hAL6, hk6, hgo6⟩ := Al.step HAL5.out hg6 HPL.out.1 HPL.out.2 HLM.out.1 HLM.out.2
              have HAL6 := Lib.hid hAL6
              have HRo6 := Lib.hid (HRo.out.step hk6 hgo6)
              clear hg6 hAL6 hk6 hgo6
              have HPK6 := Lib.hid (show t'.p = 1 ∧ t'.k = k from ⟨HPL.out.1.trans HPK.out.1, HPL.out.2.trans HPK.out.2⟩)
              clear HCALL HAL5 HRo HX5 p0 p1 p2 p3 p4 p5 hgl HPL HPK HB HLW HLM
              by_cases h8 : gc = 8
              · have HL6 := Lib.hid (HLA.out.2 h8)
                subst h8
                clear HLA
                by_cases hf : fc = 0
                · subst hf
                  cases m with
                  | none =>
                    cases q with
                    | some b => exact (HAL6.out.mo).elim
                    | none =>
                      go_wp2
                      go_roundw
                      case rel => exact ⟨j + 1, F6, J6, a, ax, s', t', x, some x2, some bn, by omega, rfl, rfl, rfl, by go_num, Lib.hid ⟨HAL6.out.ds, HAL6.out.rx, HRo6.out, HAL6.out.low, HAL6.out.bel⟩, Lib.hid (by simpa using HL6.out), HPK6⟩
                      case measure => simp [intOf]; omega
                  | some y =>
                    cases q with
                    | none => exact (HAL6.out.mo).elim
                    | some b =>
                      go_wp2
                      go_roundw
                      case rel => exact ⟨j + 1, F6, J6, a, ax, s', t', x, some y, some b, by omega, rfl, rfl, rfl, by go_num, HAL6, Lib.hid (by simpa using HL6.out), HPK6⟩
                      case measure => simp [intOf]; omega
                · have ef : (fc == 0) = false := by simpa using hf
                  have HL7 := Lib.hid (show Lw S0 s' t' x m from by have h := HL6.out; rw [if_neg (fun e => hf e.1)] at h; exact h)
                  clear hf HL6
                  go_wp2
                  go_roundw
                  case rel => exact ⟨j + 1, F6, J6, a, ax, s', t', x, m, q, by omega, rfl, rfl, rfl, by go_num, HAL6, HL7, HPK6⟩
                  case measure => simp [intOf]; omega
              · obtain ⟨h9, hl6⟩ := HLA.out.1 h8
                subst h9
                have HL6 := Lib.hid hl6
                have e8 : (gc == 8) = false := by simpa using h8
                have hdn : s'.down = m.isSome := hl6.down
                clear h8 hl6 HLA
                cases m with
                | none =>
                  have hdn' : s'.down = false := hdn
                  clear hdn
                  go_wp2_with (go_at_call 19; refine (down_any F6 g s' _ HAL6.out.ds.dk).mono ?_; rintro e w7 ⟨rfl, rfl⟩; rw [hdn'])
                  obtain ⟨HH, NN, h1, _⟩ := HRo6.out
                  refine (Go.Proofs.Ythgmocipiknfpaa.StgH.same_any F6 J6 HH NN g a bn s' t' x2 _ HAL6.out.ds h1 HL6.out.wf HL6.out.no HL6.out.right true ⟨fun _ => HL6.out.same, fun _ => rfl⟩).mono ?_
                  rintro e w7 ⟨rfl, hb7⟩
                  have HAL7 := Lib.hid (HAL6.out.below hb7)
                  have HRo7 := Lib.hid (HRo6.out.below hb7)
                  clear hb7 HAL6 HRo6 h1
                  go_wp2
                  go_roundw
                  case rel => exact ⟨j + 1, F6, J6, a, bn, s', t', x2, none, q, by omega, rfl, rfl, rfl, by go_num, Lib.hid ⟨HAL7.out.ds, HRo7.out, HAL7.out.mo, HAL7.out.low, HAL7.out.bel⟩, HL6, HPK6⟩
                  case measure => simp [intOf]; omega
                | some y =>
                  have hdn' : s'.down = true := hdn
                  clear hdn
                  go_wp2_with (go_at_call 19; refine (down_any F6 g s' _ HAL6.out.ds.dk).mono ?_; rintro e w7 ⟨rfl, rfl⟩; rw [hdn'])
                  refine ⟨⟨j + 1, F6, J6, a, bn, s', t', x2, some y, q, by omega, rfl, rfl, rfl, by go_num, Lib.hid ⟨HAL6.out.ds, HRo6.out, HAL6.out.mo, HAL6.out.low, HAL6.out.bel⟩, HL6, HPK6⟩, ?_⟩
                  simp [intOf]; omega
            · have e2 : (rk == 2) = false := by simpa using hk2
              by_cases hk3 : rk = 3
              · subst hk3
                clear e0 e1 e2 hk0 hk1' hk2
                have p3 := HX'.out.cell (i := 3) rfl
                cases m with
                | none =>
                  cases q with
                  | some b => exact (HB.out.mo).elim
                  | none =>
                    go_wp2_with fail
                    refine (fuse_any F g s rno wB HB.out.ds.dk HC.out.no.1 HC.out.no.2).mono ?_
                    intro e w6 hg6
                    obtain ⟨rfl, F6, J6, hAL6, hk6, hgo6⟩ := Al.step HB.out (got_sgo HB.out.ds hg6) rfl rfl HLW.out.len HLW.out.most
                    have HAL6 := Lib.hid hAL6
                    have HL6 := Lib.hid (HLW.out.fuse rno HC.out.no.1 HC.out.no.2)
                    obtain ⟨s', hs'⟩ : ∃ z : St, z = { s with fuse := rno } := ⟨_, rfl⟩
                    rw [← hs'] at HAL6 HL6
                    have hdn' : s'.down = false := HL6.out.down
                    clear hg6 hAL6 hk6 hgo6 hs' p3 p0 hgl HB HLW
                    go_wp2_with (go_at_call 19; refine (down_any F6 g s' _ HAL6.out.ds.dk).mono ?_; rintro e w7 ⟨rfl, rfl⟩; rw [hdn'])
                    obtain ⟨HH, NN, h1, _⟩ := HAL6.out.rx
                    refine (Go.Proofs.Ythgmocipiknfpaa.StgH.same_any F6 J6 HH NN g a ax s' t x _ HAL6.out.ds h1 HL6.out.wf HL6.out.no HL6.out.right true ⟨fun _ => HL6.out.same, fun _ => rfl⟩).mono ?_
                    rintro e w7 ⟨rfl, hb7⟩
                    have HAL7 := Lib.hid (HAL6.out.below hb7)
                    clear hb7 HAL6 h1
                    go_wp2
                    go_roundw
                    case rel => exact ⟨j + 1, F6, J6, a, ax, s', t, x, none, none, by omega, rfl, rfl, rfl, by go_num, HAL7, HL6, HPK⟩
                    case measure => simp [intOf]; omega
                | some y =>
                  cases q with
                  | none => exact (HB.out.mo).elim
                  | some b' =>
                    have hdn' : s.down = true := HLW.out.down
                    go_wp2_with (go_at_call 19; refine (down_any F g s _ HB.out.ds.dk).mono ?_; rintro e w7 ⟨rfl, rfl⟩; rw [hdn'])
                    refine ⟨⟨j + 1, F, J, a, ax, s, t, x, some y, some b', by omega, rfl, rfl, rfl, by go_num, HB, HLW, HPK⟩, ?_⟩
                    simp [intOf]; omega
              · have e3 : (rk == 3) = false := by simpa using hk3
                by_cases hk4 : rk = 4
                · subst hk4
                  clear e0 e1 e2 e3 hk0 hk1' hk2 hk3
                  have p6 := HX'.out.cell (i := 6) rfl
                  have hln : 10 * 1 + 2 + 4 * k + 4 ≤ (DskE.power rkp s).S.length := by
                    rw [power_len]
                    have h := HLW.out.len
                    have e : t.at_ = 10 * t.p + 2 + 4 * t.k := rfl
                    rw [HPK.out.1, HPK.out.2] at e
                    omega
                  have HLN := Lib.hid hln
                  have hpw := HLW.out.power rkp
                  rw [HPK.out.1, HPK.out.2] at hpw
                  have HPW := Lib.hid hpw
                  have HPB := Lib.hid (Put2.power_byts HLW.out.byts rkp)
                  have HWY := Lib.hid (show ∀ y, m = some y → y.wf from fun y e => by subst e; exact HLW.out.wfm)
                  clear hln hpw
                  go_wp2_with fail
                  refine (power_any F g s rkp wB HB.out.ds.dk (by have := HLW.out.most; omega) HC.out.keep).mono ?_
                  intro e w5 hg5
                  obtain ⟨rfl, F5, J5, hAL5, hk5, hgo5⟩ := Al.step HB.out (got_sgo HB.out.ds hg5) rfl rfl (by rw [power_len]; exact HLW.out.len) (by show ([] : List (Nat × List Nat)).length ≤ 1; exact Nat.zero_le _)
                  have HAL5 := Lib.hid hAL5
                  clear hg5 hAL5 hk5 hgo5 p6 p0 hgl HB HLW
                  go_wp2_with fail
                  refine (open_any F5 g (DskE.power rkp s) 1 k w5 HAL5.out.ds.dk (by omega) (by omega) HLN.out rfl (by show ([] : List (Nat × List Nat)).length ≤ 1000000; exact Nat.zero_le _) HPB.out).mono ?_
                  rintro e w6 ⟨an, J6, rfl, hS6, hJ6, hb6⟩
                  have HAL6 := Lib.hid (HAL5.out.reopen hS6 hJ6 hb6 ⟨by show 1 ≤ 3; omega, by show k ≤ 1; omega, HLN.out⟩)
                  have HPK6 := Lib.hid (show (pO (DskE.power rkp s) 1 k).p = 1 ∧ (pO (DskE.power rkp s) 1 k).k = k from ⟨rfl, rfl⟩)
                  obtain ⟨t', ht'⟩ : ∃ z, z = pO (DskE.power rkp s) 1 k := ⟨_, rfl⟩
                  rw [← ht'] at HAL6 HPW HPK6
                  obtain ⟨s', hs'⟩ : ∃ z, z = DskE.power rkp s := ⟨_, rfl⟩
                  rw [← hs'] at HAL6 HPW
                  clear hS6 hJ6 hb6 ht' hs' HAL5 HLN HPK
                  cases m with
                  | none =>
                    cases q with
                    | some b' => exact (HAL6.out.mo).elim
                    | none =>
                      have HL6 : Hid (Lw S0 s' t' x none) := Lib.hid (HPW.out.1 rfl)
                      have hdn' : s'.down = false := HL6.out.down
                      clear HPW
                      go_wp2_with (go_at_call 19; refine (down_any F5 g s' _ HAL6.out.ds.dk).mono ?_; rintro e w8 ⟨rfl, rfl⟩; rw [hdn'])
                      obtain ⟨HH, NN, h1, _⟩ := HAL6.out.rx
                      refine (Go.Proofs.Ythgmocipiknfpaa.StgH.same_any F5 J6 HH NN g an ax s' t' x _ HAL6.out.ds h1 HL6.out.wf HL6.out.no HL6.out.right true ⟨fun _ => HL6.out.same, fun _ => rfl⟩).mono ?_
                      rintro e w8 ⟨rfl, hb8⟩
                      have HAL8 := Lib.hid (HAL6.out.below hb8)
                      clear hb8 h1
                      go_wp2
                      go_roundw
                      case rel => exact ⟨j + 1, F5, J6, an, ax, s', t', x, none, none, by omega, rfl, rfl, rfl, by go_num, HAL8, HL6, HPK6⟩
                      case measure => simp [intOf]; omega
                  | some y =>
                    cases q with
                    | none => exact (HAL6.out.mo).elim
                    | some b' =>
                      rcases HPW.out.2 y rfl with hI | ⟨hI, hne⟩
                      · have HL6 : Hid (Lw S0 s' t' y none) := Lib.hid hI
                        have hdn' : s'.down = false := HL6.out.down
                        clear HPW hI
                        go_wp2_with fail
                        have hro : Ro w6 F5 J6 b' y := HAL6.out.mo
                        obtain ⟨HH, NN, h1, _⟩ := hro
                        refine (Go.Proofs.Ythgmocipiknfpaa.StgH.same_any F5 J6 HH NN g an b' s' t' y _ HAL6.out.ds h1 HL6.out.wf HL6.out.no HL6.out.right true ⟨fun _ => HL6.out.same, fun _ => rfl⟩).mono ?_
                        rintro e w7 ⟨rfl, hb7⟩
                        have HAL7 := Lib.hid (HAL6.out.below hb7)
                        clear hb7 HAL6 h1
                        go_wp2_with (go_at_call 19; refine (down_any F5 g s' _ HAL7.out.ds.dk).mono ?_; rintro e w8 ⟨rfl, rfl⟩; rw [hdn'])
                        obtain ⟨HH, NN, h1, _⟩ := (show Ro w7 F5 J6 b' y from HAL7.out.mo)
                        refine (Go.Proofs.Ythgmocipiknfpaa.StgH.same_any F5 J6 HH NN g an b' s' t' y _ HAL7.out.ds h1 HL6.out.wf HL6.out.no HL6.out.right true ⟨fun _ => HL6.out.same, fun _ => rfl⟩).mono ?_
                        rintro e w8 ⟨rfl, hb8⟩
                        have HAL8 := Lib.hid (HAL7.out.below hb8)
                        clear hb8 h1
                        go_wp2
                        go_roundw
                        case rel => exact ⟨j + 1, F5, J6, an, b', s', t', y, none, none, by omega, rfl, rfl, rfl, by go_num, Lib.hid ⟨HAL8.out.ds, HAL8.out.mo, trivial, HAL8.out.low, HAL8.out.bel⟩, HL6, HPK6⟩
                        case measure => simp [intOf]; omega
                      · have HL6 : Hid (Lw S0 s' t' x none) := Lib.hid hI
                        have HNE := Lib.hid hne
                        have hwy : y.wf := HWY.out y rfl
                        have HWF := Lib.hid hwy
                        have hdn' : s'.down = false := HL6.out.down
                        clear HPW hI hne hwy
                        go_wp2_with fail
                        have hro : Ro w6 F5 J6 b' y := HAL6.out.mo
                        obtain ⟨HH, NN, h1, _⟩ := hro
                        refine (Go.Proofs.Ythgmocipiknfpaa.StgH.same_any F5 J6 HH NN g an b' s' t' y _ HAL6.out.ds h1 HWF.out HL6.out.no HL6.out.right false ⟨fun e => (by cases e), fun e => absurd ⟨e.1, e.2.1⟩ HNE.out⟩).mono ?_
                        rintro e w7 ⟨rfl, hb7⟩
                        have HAL7 := Lib.hid (HAL6.out.below hb7)
                        clear hb7 HAL6 h1
                        go_wp2_with (go_at_call 19; refine (down_any F5 g s' _ HAL7.out.ds.dk).mono ?_; rintro e w8 ⟨rfl, rfl⟩; rw [hdn'])
                        obtain ⟨HH, NN, h1, _⟩ := HAL7.out.rx
                        refine (Go.Proofs.Ythgmocipiknfpaa.StgH.same_any F5 J6 HH NN g an ax s' t' x _ HAL7.out.ds h1 HL6.out.wf HL6.out.no HL6.out.right true ⟨fun _ => HL6.out.same, fun _ => rfl⟩).mono ?_
                        rintro e w8 ⟨rfl, hb8⟩
                        have HAL8 := Lib.hid (HAL7.out.below hb8)
                        clear hb8 h1
                        go_wp2
                        go_roundw
                        case rel => exact ⟨j + 1, F5, J6, an, ax, s', t', x, none, none, by omega, rfl, rfl, rfl, by go_num, Lib.hid ⟨HAL8.out.ds, HAL8.out.rx, trivial, HAL8.out.low, HAL8.out.bel⟩, HL6, HPK6⟩
                        case measure => simp [intOf]; omega
                · have e4 : (rk == 4) = false := by simpa using hk4
                  clear hk0 hk1' hk2 hk3 hk4
                  have hdn : s.down = m.isSome := HLW.out.down
                  cases m with
                  | none =>
                    have hdn' : s.down = false := hdn
                    clear hdn
                    go_wp2_with (go_at_call 19; refine (down_any F g s _ HB.out.ds.dk).mono ?_; rintro e w7 ⟨rfl, rfl⟩; rw [hdn'])
                    obtain ⟨HH, NN, h1, _⟩ := HB.out.rx
                    refine (Go.Proofs.Ythgmocipiknfpaa.StgH.same_any F J HH NN g a ax s t x _ HB.out.ds h1 HLW.out.wf HLW.out.no HLW.out.right true ⟨fun _ => HLW.out.same, fun _ => rfl⟩).mono ?_
                    rintro e w7 ⟨rfl, hb7⟩
                    have HAL7 := Lib.hid (HB.out.below hb7)
                    clear hb7 HB h1
                    go_wp2
                    go_roundw
                    case rel => exact ⟨j + 1, F, J, a, ax, s, t, x, none, q, by omega, rfl, rfl, rfl, by go_num, HAL7, HLW, HPK⟩
                    case measure => simp [intOf]; omega
                  | some y =>
                    have hdn' : s.down = true := hdn
                    clear hdn
                    go_wp2_with (go_at_call 19; refine (down_any F g s _ HB.out.ds.dk).mono ?_; rintro e w7 ⟨rfl, rfl⟩; rw [hdn'])
                    refine ⟨⟨j + 1, F, J, a, ax, s, t, x, some y, q, by omega, rfl, rfl, rfl, by go_num, HB, HLW, HPK⟩, ?_⟩
                    simp [intOf]; omega
      · obtain rfl : j = n := by omega
        go_wp2_with fail
        refine (power_any F g s 0 wr HAL.out.ds.dk (by have := HLW.out.most; omega) (by omega)).mono ?_
        intro e w5 hg5
        obtain ⟨rfl, F5, J5, hAL5, hk5, hgo5⟩ := Al.step HAL.out (got_sgo HAL.out.ds hg5) rfl rfl (by rw [power_len]; exact HLW.out.len) (by show ([] : List (Nat × List Nat)).length ≤ 1; exact Nat.zero_le _)
        have HAL5 := Lib.hid hAL5
        have HLS := Lib.hid (HLW.out.last 0)
        obtain ⟨z, hz⟩ : ∃ z, z = 12 + 4 * k := ⟨_, rfl⟩
        have hrs : rS 1 (k : Int) = (z : Int) := by
          rcases (show k = 0 ∨ k = 1 by omega) with rfl | rfl
          · subst hz; rfl
          · subst hz; rfl
        have HZ := Lib.hid (show ∀ i, i < 20 → ¬ (z ≤ i ∧ i < z + 4) → Go.Proofs.Ythgmocipiknfpaa.DskD.now (DskE.power 0 s) i = zs 64 from fun i hi hn => by
          rw [now_S rfl, HLS.out.2 i (by
            have e : t.at_ = 10 * t.p + 2 + 4 * t.k := rfl
            rw [HPK.out.1, HPK.out.2] at e
            omega), HS0.out]
          exact new_getD 20 i (by rw [show cnt 20 = 20 from rfl]; exact hi))
        have HSL := Lib.hid (show (DskE.power 0 s).S.length = 20 from by rw [HLS.out.1, HS0.out, new_len]; rfl)
        have hdn : (DskE.power 0 s).down = false := rfl
        have HDL := Lib.hid (show (DskE.power 0 s).L.length ≤ 1000000000 from by show ([] : List (Nat × List Nat)).length ≤ 1000000000; exact Nat.zero_le _)
        have HDN := Lib.hid hdn
        obtain ⟨s', hs'⟩ : ∃ z, z = DskE.power 0 s := ⟨_, rfl⟩
        rw [← hs'] at HAL5 HZ HSL HDL HDN
        have HRS := Lib.hid (fun w' => rstage_any 1 k w')
        rw [hrs] at HRS
        have hmk : ∀ w, (Instr.makeSlice 43 (.int .i64 64) (.int .i64 64)).run Try.prog w = .ok (.slice (some ⟨w.heap.size, 0, none⟩) 64 64) (w.alloc (.cells (u8n (List.replicate 64 0)).toArray 5)) := make_bytes 64 (by omega)
        obtain ⟨Z, hZ⟩ : ∃ Z, Z = (u8n (List.replicate 64 0)).toArray := ⟨_, rfl⟩
        simp only [← hZ] at hmk
        have HZR := Lib.hid (fun w : World => zeros_rd w)
        rw [← hZ] at HZR
        clear hZ
        clear hg5 hAL5 hk5 hgo5 HLW hs' hrs hz hdn HLS HPK HAL
        go_wp2_with fail
        go_loopw [138] (fun i' wx => ∃ (i : Nat), i ≤ 20 ∧ i' = .int .i64 i ∧ Hid (Al w wx F5 J5 g a ax s' t x m q)) (fun i' _ => 20 - (intOf i').toNat)
        case atStart => exact ⟨0, by omega, rfl, HAL5⟩
        case round =>
          clear HAL5
          obtain ⟨i, hi, rfl, HAL6⟩ := hrel
          by_cases hi20 : i < 20
          · by_cases hz1 : z ≤ i
            · by_cases hz2 : i < z + 4
              · go_wp2_with (go_at_call 20; refine (HRS.out _).mono ?_; rintro e w6 ⟨rfl, rfl⟩)
                go_roundw
                case rel => exact ⟨i + 1, by omega, by go_num, HAL6⟩
                case measure => simp [intOf]; omega
              · have hq := HZ.out i hi20 (fun h => hz2 h.2)
                have hz2' : ¬ (i : Int) < (z : Int) + 4 := by omega
                have HQ := Lib.hid hq
                clear hq
                go_wp2_with (go_at_call 20; refine (HRS.out _).mono ?_; rintro e w6 ⟨rfl, rfl⟩)
                refine (Go.Proofs.Ythgmocipiknfpaa.DskD.read_ok F5 g s' i wr HAL6.out.ds.dk (by rw [HSL.out]; exact hi20) HDN.out HDL.out).mono ?_
                rintro e w7 ⟨A7, rfl, ho7, hb7⟩
                rw [HQ.out] at ho7
                have HO7 := Lib.hid (Rd.own ho7)
                have HAL7 := Lib.hid (HAL6.out.below hb7)
                clear ho7 hb7
                go_wp2_with fail
                have HAL8 := Lib.hid (HAL7.out.below ((Below.refl _ _).alloc (Nat.le_refl _) (.cells Z 5)))
                refine (same_n (HO7.out.alloc _) (HZR.out w7)).mono ?_
                rintro e w8 ⟨rfl, nq, rfl⟩
                rw [show decide (zs 64 = List.replicate 64 0) = true from by simp [zs]]
                go_wp2
                go_roundw
                case rel => exact ⟨i + 1, by omega, by go_num, Lib.hid (HAL8.out.below (below_drewN (Below.refl _ _) _))⟩
                case measure => simp [intOf]; omega
            · have hq := HZ.out i hi20 (fun h => hz1 h.1)
              have hz1' : ¬ (z : Int) ≤ (i : Int) := by omega
              have HQ := Lib.hid hq
              clear hq
              go_wp2_with (go_at_call 20; refine (HRS.out _).mono ?_; rintro e w6 ⟨rfl, rfl⟩)
              refine (Go.Proofs.Ythgmocipiknfpaa.DskD.read_ok F5 g s' i wr HAL6.out.ds.dk (by rw [HSL.out]; exact hi20) HDN.out HDL.out).mono ?_
              rintro e w7 ⟨A7, rfl, ho7, hb7⟩
              rw [HQ.out] at ho7
              have HO7 := Lib.hid (Rd.own ho7)
              have HAL7 := Lib.hid (HAL6.out.below hb7)
              clear ho7 hb7
              go_wp2_with fail
              have HAL8 := Lib.hid (HAL7.out.below ((Below.refl _ _).alloc (Nat.le_refl _) (.cells Z 5)))
              refine (same_n (HO7.out.alloc _) (HZR.out w7)).mono ?_
              rintro e w8 ⟨rfl, nq, rfl⟩
              rw [show decide (zs 64 = List.replicate 64 0) = true from by simp [zs]]
              go_wp2
              go_roundw
              case rel => exact ⟨i + 1, by omega, by go_num, Lib.hid (HAL8.out.below (below_drewN (Below.refl _ _) _))⟩
              case measure => simp [intOf]; omega
          · obtain rfl : i = 20 := by omega
            go_wp2
            go_ret
            exact ⟨rfl, HAL6.out.bel⟩
set_option maxRecDepth 100000 in
theorem hole {H : Type} (enc : TypeId × Value → H) (base : Nat) (a0 : Int) (v1 : Value) (d1 : DataW H) (p1 : List MemPlace) (w : World) (w0 : (Lit.int .u8 a0).wf = true) (w1 : DataW.Trod enc Try.prog w 0 (fun _ => true) true 22 v1 d1 p1) (o1 : Value.okWide Try.prog w .any base 22 v1) :
    Calls Try.prog 3 #[.int .u8 a0, v1] w fun e w' => e = .returned (.bool true) ∧ Below w.heap.size w w' := by
  obtain ⟨A, n, c, R, rfl, hr⟩ := open_acts w1 o1
  obtain ⟨y, hy, rfl⟩ : ∃ y : Nat, y < 256 ∧ a0 = y := by have h := bounds_u8 w0; exact ⟨a0.toNat, by omega, by omega⟩
  exact core y A n c R w hr hy
end Go.Proofs.Ythgmocipiknfpaa.StageActsW
