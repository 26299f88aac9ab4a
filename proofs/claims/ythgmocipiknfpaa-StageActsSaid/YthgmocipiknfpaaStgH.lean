/- Whether a slot is just what is told of it, by the law. Conditions: what lies lies as the facts say. -/
import Derived.Test.YthgmocipiknfpaaJ11
import Derived.Test.YthgmocipiknfpaaJ13
import Derived.Test.YthgmocipiknfpaaJ07
import Derived.BigQuiet
import Derived.Deep.QuietTactic
import Derived.Laws.StructEq
namespace Go.Proofs.Ythgmocipiknfpaa.StgH
open Go.RowKit Go.Proofs.Ythgmocipiknfpaa.Kit Go.Proofs.Ythgmocipiknfpaa.Byt Go.Proofs.Ythgmocipiknfpaa.Mem Go.Proofs.Ythgmocipiknfpaa.RecM Go.Proofs.Ythgmocipiknfpaa.StgM Go.Proofs.Ythgmocipiknfpaa.StgA Go.Proofs.Ythgmocipiknfpaa.StgB Go.Proofs.Ythgmocipiknfpaa.StgD Go.Proofs.Ythgmocipiknfpaa.StgN Go.Proofs.Ythgmocipiknfpaa.Same
open Go.Proofs.Ythgmocipiknfpaa.RecA (n64 sval)
open Go.Proofs.Ythgmocipiknfpaa.DskA (St)

set_option maxRecDepth 100000 in
theorem seqn (s z h s' z' h' : Int) (w : World) : (Op.equalIn 10000 32 (.agg #[.int .i64 s, .int .i64 z, .int .i64 h]) (.agg #[.int .i64 s', .int .i64 z', .int .i64 h'])).run Try.prog w = .ok (decide (s = s' ∧ z = z' ∧ h = h')) w := by
  have ht : Try.prog.underlying 32 = some (.struct (Try.prog.fieldsOf 32)) := by kernel_rfl
  have hp : Try.prog.stoodInHeld 32 = false := by kernel_rfl
  rw [show (10000 : Nat) = 9999 + 1 from rfl, run_equalIn_struct w 9999 _ _ _ ht hp]
  by_cases e1 : s = s'
  · by_cases e2 : z = z'
    · by_cases e3 : h = h'
      · simp [go_sem, Op.eqFields, Try.underlying32, Try.underlying3, e1, e2, e3]
      · simp [go_sem, Op.eqFields, Try.underlying32, Try.underlying3, e1, e2, e3]
    · simp [go_sem, Op.eqFields, Try.underlying32, Try.underlying3, e1, e2]
  · simp [go_sem, Op.eqFields, Try.underlying32, Try.underlying3, e1]

set_option maxRecDepth 100000 in
set_option maxHeartbeats 6400000 in
theorem same_any (F J H N : Nat → Prop) (g a a2 : Nat) (s : St) (t : Slt) (x : Rf) (w : World) (hD : DS w F J g a s t) (h : RSl w H N a2 x) (hwf : x.wf) (hg0 : t.has = false → t.g = Sg.none) (hg1 : t.has = true → t.g.right) (b : Bool) (hb : b = true ↔ t.has = x.has ∧ t.g = x.g ∧ pY s t = rY x) :
    Calls Try.prog 18 #[.pointer (some ⟨a, 0, none⟩), .pointer (some ⟨a2, 0, none⟩)] w fun e w' => e = .returned (.bool b) ∧ Below w.heap.size w w' := by
  have HD := Lib.hid hD
  have HR := Lib.hid h
  have HW := Lib.hid hwf
  have HG0 := Lib.hid hg0
  have HG1 := Lib.hid hg1
  have HB := Lib.hid hb
  have HF := Lib.hid (show ∀ q : Prop, (b = true → q) → ¬ q → b = false from fun q h hp => by rw [Bool.eq_false_iff]; exact fun hb => hp (h hb))
  have hal : a2 < w.heap.size := by obtain ⟨_, _, _, _, h⟩ := h; exact h.hlt a2 h.ha
  clear hD h hwf hg0 hg1 hb
  go_enter Try.func18, Try.ntmps18
  go_wp2_with fail
  refine (stage_any J g a t w HD.out.sm HG0.out).mono ?_
  rintro e w1 ⟨rfl, hb1⟩
  obtain ⟨th, tg, hth, htg⟩ : ∃ th tg, th = t.has ∧ tg = t.g := ⟨_, _, rfl, rfl⟩
  rw [← hth, ← htg]
  have HT := Lib.hid hth
  have HTG := Lib.hid htg
  clear hth htg
  obtain ⟨gs, gz, gh⟩ := tg
  have hbx : Below w.heap.size w (w1.alloc (.cells #[.int .i64 gs, .int .i64 gz, .int .i64 gh] 32)) := hb1.alloc hb1.size _
  have HL2 := Lib.hid hbx
  have HX2 := Lib.hid (Blk.new w1 32 [.int .i64 gs, .int .i64 gz, .int .i64 gh])
  have HS1 := Lib.hid hb1.size
  have hw2 : ∃ w2, w2 = w1.alloc (.cells #[.int .i64 gs, .int .i64 gz, .int .i64 gh] 32) := ⟨_, rfl⟩
  obtain ⟨w2, hw2⟩ := hw2
  have HX2' : Hid (Blk w2 w1.heap.size 32 [.int .i64 gs, .int .i64 gz, .int .i64 gh]) := by rw [hw2]; exact HX2
  rw [← hw2] at HL2
  have hw2' : w1.alloc (.cells #[.int .i64 gs, .int .i64 gz, .int .i64 gh] 32) = w2 := hw2.symm
  clear hbx hb1 hw2 HX2
  go_wp2_with fail
  clear hw2'
  have hD2 : DS w2 F J g a s t := ⟨HD.out.dk.below HL2.out, HD.out.sm.keep (Keep.of_below (F := fun _ => False) HL2.out) (fun _ _ h => h), HD.out.dis, HD.out.most, HD.out.fits⟩
  refine (bytes_any F J g a s t w2 hD2 HG1.out).mono ?_
  rintro e w3 ⟨B3, m3, d3, rfl, hr3, hb3⟩
  have HR3 := Lib.hid hr3
  have HX3 := Lib.hid (HX2'.out.below hb3)
  have HL3 := Lib.hid (HL2.out.trans (hb3.mono HL2.out.size))
  clear hD2 hr3 hb3 HX2' HL2
  go_wp2_with fail
  refine (rbytes_any H N a2 x w3 (HR.out.below HL3.out) HW.out).mono ?_
  rintro e w4 ⟨B4, m4, d4, rfl, hr4, hb4⟩
  have HR4 := Lib.hid hr4
  have HR34 := Lib.hid (HR3.out.below hb4)
  have HX4 := Lib.hid (HX3.out.below hb4)
  have HL4 := Lib.hid (HL3.out.trans (hb4.mono HL3.out.size))
  have hRS := HR.out.below HL4.out
  obtain ⟨E, A, n, c, hRS⟩ := hRS
  obtain ⟨c0, c1, c2, c3, _⟩ := hRS.cells
  have p0 := HX4.out.cell (i := 0) rfl
  have p1 := HX4.out.cell (i := 1) rfl
  have p2 := HX4.out.cell (i := 2) rfl
  obtain ⟨y1, hy1⟩ : ∃ y, y = (pY s t).1 := ⟨_, rfl⟩
  obtain ⟨y2, hy2⟩ : ∃ y, y = (pY s t).2 := ⟨_, rfl⟩
  obtain ⟨z1, hz1⟩ : ∃ z, z = (rY x).1 := ⟨_, rfl⟩
  obtain ⟨z2, hz2⟩ : ∃ z, z = (rY x).2 := ⟨_, rfl⟩
  rw [← hy1] at HR34
  rw [← hz1] at HR4
  rw [← hy2, ← hz2]
  have HYZ := Lib.hid (show pY s t = rY x ↔ y1 = z1 ∧ y2 = z2 from by rw [hy1, hy2, hz1, hz2]; exact Prod.ext_iff)
  have HSM := Lib.hid (fun n => same_n (w := w4.drewN n) (HR34.out.drewN n) (HR4.out.drewN n))
  clear hy1 hy2 hz1 hz2 hr4 hb4 HR3 HX3 HL3 hRS HX4
  obtain ⟨xh, hxh⟩ : ∃ xh, xh = x.has := ⟨_, rfl⟩
  obtain ⟨xg, hxg⟩ : ∃ xg, xg = x.g := ⟨_, rfl⟩
  rw [← hxh] at c0
  rw [← hxg] at c1 c2 c3
  have HXH := Lib.hid hxh
  have HXG := Lib.hid hxg
  clear hxh hxg
  obtain ⟨xs, xz, xt⟩ := xg
  dsimp only at c1 c2 c3
  have heq := seqn gs gz gh xs xz xt
  cases th
  · cases xh
    · have hgn : (⟨gs, gz, gh⟩ : Sg) = Sg.none := HTG.out.trans (HG0.out HT.out.symm)
      have hxn : x.g = Sg.none := by rw [HW.out.no HXH.out.symm]; rfl
      simp only [Sg.none, Sg.mk.injEq] at hgn
      obtain ⟨rfl, rfl, rfl⟩ := hgn
      clear heq
      have heq := seqn 0 0 0 0 0 0
      rw [show decide ((0 : Int) = 0 ∧ (0 : Int) = 0 ∧ (0 : Int) = 0) = true from by decide] at heq
      have HGE := Lib.hid (show t.g = x.g from HTG.out.symm.trans hxn.symm)
      cases hd1 : decide (y1 = z1)
      · have hbf := Lib.hid (HF.out _ HB.out.1 (fun h => of_decide_eq_false hd1 (HYZ.out.1 h.2.2).1))
        rw [hd1] at HSM
        clear hd1
        go_wp2_with fail
        go_quiet ((go_at_call 22; exact Calls.quiet_of (HSM.out _)))
        go_wp2
        go_ret
        exact ⟨by rw [hbf.out]; rfl, below_drewN HL4.out _⟩
      · rw [hd1] at HSM
        cases hd2 : (y2 == z2)
        · have hbf := Lib.hid (HF.out _ HB.out.1 (fun h => by have := (HYZ.out.1 h.2.2).2; rw [this] at hd2; simp at hd2))
          clear hd1
          go_wp2_with fail
          go_quiet ((go_at_call 22; exact Calls.quiet_of (HSM.out _)))
          go_wp2
          go_ret
          exact ⟨by rw [hbf.out]; rfl, below_drewN HL4.out _⟩
        · have hbt := Lib.hid (HB.out.2 ⟨by rw [← HT.out, ← HXH.out], HGE.out, HYZ.out.2 ⟨of_decide_eq_true hd1, by simpa using hd2⟩⟩)
          clear hd1
          go_wp2_with fail
          go_quiet ((go_at_call 22; exact Calls.quiet_of (HSM.out _)))
          go_wp2
          go_ret
          exact ⟨by rw [hbt.out]; rfl, below_drewN HL4.out _⟩
    · have hbf := Lib.hid (HF.out _ HB.out.1 (fun h => by have h1 := h.1; rw [← HT.out, ← HXH.out] at h1; cases h1))
      clear heq
      go_wp2_with fail
      go_quiet (fail)
      go_wp2
      go_ret
      exact ⟨by rw [hbf.out]; rfl, below_drewN HL4.out _⟩
  · cases xh
    · have hbf := Lib.hid (HF.out _ HB.out.1 (fun h => by have h1 := h.1; rw [← HT.out, ← HXH.out] at h1; cases h1))
      clear heq
      go_wp2_with fail
      go_quiet (fail)
      go_wp2
      go_ret
      exact ⟨by rw [hbf.out]; rfl, below_drewN HL4.out _⟩
    · cases hd : decide (gs = xs ∧ gz = xz ∧ gh = xt)
      · rw [hd] at heq
        have hne := Lib.hid (of_decide_eq_false hd)
        clear hd
        have hbf := Lib.hid (HF.out _ HB.out.1 (fun h => by have h1 := h.2.1; rw [← HTG.out, ← HXG.out] at h1; simp only [Sg.mk.injEq] at h1; exact hne.out h1))
        go_wp2_with fail
        go_quiet (fail)
        go_wp2
        go_ret
        exact ⟨by rw [hbf.out]; rfl, below_drewN HL4.out _⟩
      · rw [hd] at heq
        have hge : t.g = x.g := by
          rw [← HTG.out, ← HXG.out]
          obtain ⟨h1, h2, h3⟩ := of_decide_eq_true hd
          rw [h1, h2, h3]
        clear hd
        have HGE := Lib.hid (show t.g = x.g from hge)
        cases hd1 : decide (y1 = z1)
        · have hbf := Lib.hid (HF.out _ HB.out.1 (fun h => of_decide_eq_false hd1 (HYZ.out.1 h.2.2).1))
          rw [hd1] at HSM
          clear hd1
          go_wp2_with fail
          go_quiet ((go_at_call 22; exact Calls.quiet_of (HSM.out _)))
          go_wp2
          go_ret
          exact ⟨by rw [hbf.out]; rfl, below_drewN HL4.out _⟩
        · rw [hd1] at HSM
          cases hd2 : (y2 == z2)
          · have hbf := Lib.hid (HF.out _ HB.out.1 (fun h => by have := (HYZ.out.1 h.2.2).2; rw [this] at hd2; simp at hd2))
            clear hd1
            go_wp2_with fail
            go_quiet ((go_at_call 22; exact Calls.quiet_of (HSM.out _)))
            go_wp2
            go_ret
            exact ⟨by rw [hbf.out]; rfl, below_drewN HL4.out _⟩
          · have hbt := Lib.hid (HB.out.2 ⟨by rw [← HT.out, ← HXH.out], HGE.out, HYZ.out.2 ⟨of_decide_eq_true hd1, by simpa using hd2⟩⟩)
            clear hd1
            go_wp2_with fail
            go_quiet ((go_at_call 22; exact Calls.quiet_of (HSM.out _)))
            go_wp2
            go_ret
            exact ⟨by rw [hbt.out]; rfl, below_drewN HL4.out _⟩
end Go.Proofs.Ythgmocipiknfpaa.StgH
