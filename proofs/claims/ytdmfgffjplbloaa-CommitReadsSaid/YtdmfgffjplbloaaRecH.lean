/- When a record is right, by the code. No conditions. -/
import Derived.Test.YtdmfgffjplbloaaRecG4
import Derived.Test.YtdmfgffjplbloaaRecG5
import Derived.Test.YtdmfgffjplbloaaRecG6
namespace Go.Proofs.Ytdmfgffjplbloaa.RecG
open Go.RowKit Go.Proofs.Ytdmfgffjplbloaa.Kit Go.Proofs.Ytdmfgffjplbloaa.Byt Go.Proofs.Ytdmfgffjplbloaa.Mem Go.Proofs.Ytdmfgffjplbloaa.RecM Go.Proofs.Ytdmfgffjplbloaa.RecA
set_option maxRecDepth 100000 in
set_option maxHeartbeats 1600000 in
theorem right_any (r : Rc) (w : World) (b : Bool) (hb : b = true ↔ r.right) : Calls Try.prog 42 #[rval r] w (Yes w b) := by
  obtain ⟨p, q, a, c, l, t⟩ := r
  have HB := Lib.hid (show b = true ↔ ((0 ≤ p ∧ p ≤ 3) ∧ (1 ≤ q ∧ q ≤ 4294967295) ∧ (0 ≤ a ∧ a ≤ 1) ∧ (0 ≤ c ∧ c ≤ 1)) ∧ (0 ≤ l ∧ l ≤ 7) ∧ (0 ≤ t ∧ t ≤ 3) ∧ (a = c → l = 0) ∧ ¬ bitOn t a ∧ ¬ bitOn t c from hb)
  clear hb
  have HX := Lib.hid (Bx.new w 31 (rcells ⟨p, q, a, c, l, t⟩))
  have HF := Lib.hid (show ∀ q : Prop, (b = true → q) → ¬ q → b = false from fun q h hp => by rw [Bool.eq_false_iff]; exact fun hb => hp (h hb))
  show Calls _ _ #[.agg #[.int .i64 p, .int .i64 q, .int .i64 a, .int .i64 c, .int .i64 l, .int .i64 t]] w _
  cases s0 : inn p 0 3
  · have hbf := Lib.hid (HF.out _ (fun h => (HB.out.1 h).1.1) (inn_false s0))
    go_enter Try.func42, Try.ntmps42
    go_wp2_with fail
    have W0 := Lib.hid (fun w1 => within_q s0 w1)
    clear s0
    go_quiet ((first | (go_at_call 54; with_reducible exact Calls.quiet_of_same (W0.out _))))
    go_wp2
    go_ret
    exact ⟨by rw [hbf.out]; rfl, below_drewN HX.out.bel _⟩
  · skip
    cases s1 : inn q 1 4294967295
    · have hbf := Lib.hid (HF.out _ (fun h => (HB.out.1 h).1.2.1) (inn_false s1))
      go_enter Try.func42, Try.ntmps42
      go_wp2_with fail
      have W0 := Lib.hid (fun w1 => within_q s0 w1)
      have W1 := Lib.hid (fun w1 => within_q s1 w1)
      clear s0 s1
      go_quiet ((first | (go_at_call 54; with_reducible exact Calls.quiet_of_same (W0.out _)) | (go_at_call 54; with_reducible exact Calls.quiet_of_same (W1.out _))))
      go_wp2
      go_ret
      exact ⟨by rw [hbf.out]; rfl, below_drewN HX.out.bel _⟩
    · skip
      cases s2 : inn a 0 1
      · have hbf := Lib.hid (HF.out _ (fun h => (HB.out.1 h).1.2.2.1) (inn_false s2))
        go_enter Try.func42, Try.ntmps42
        go_wp2_with fail
        have W0 := Lib.hid (fun w1 => within_q s0 w1)
        have W1 := Lib.hid (fun w1 => within_q s1 w1)
        have W2 := Lib.hid (fun w1 => within_q s2 w1)
        clear s0 s1 s2
        go_quiet ((first | (go_at_call 54; with_reducible exact Calls.quiet_of_same (W0.out _)) | (go_at_call 54; with_reducible exact Calls.quiet_of_same (W1.out _)) | (go_at_call 54; with_reducible exact Calls.quiet_of_same (W2.out _))))
        go_wp2
        go_ret
        exact ⟨by rw [hbf.out]; rfl, below_drewN HX.out.bel _⟩
      · skip
        cases s3 : inn c 0 1
        · have hbf := Lib.hid (HF.out _ (fun h => (HB.out.1 h).1.2.2.2) (inn_false s3))
          go_enter Try.func42, Try.ntmps42
          go_wp2_with fail
          have W0 := Lib.hid (fun w1 => within_q s0 w1)
          have W1 := Lib.hid (fun w1 => within_q s1 w1)
          have W2 := Lib.hid (fun w1 => within_q s2 w1)
          have W3 := Lib.hid (fun w1 => within_q s3 w1)
          clear s0 s1 s2 s3
          go_quiet ((first | (go_at_call 54; with_reducible exact Calls.quiet_of_same (W0.out _)) | (go_at_call 54; with_reducible exact Calls.quiet_of_same (W1.out _)) | (go_at_call 54; with_reducible exact Calls.quiet_of_same (W2.out _)) | (go_at_call 54; with_reducible exact Calls.quiet_of_same (W3.out _))))
          go_wp2
          go_ret
          exact ⟨by rw [hbf.out]; rfl, below_drewN HX.out.bel _⟩
        · skip
          have HA := Lib.hid (show a = 0 ∨ a = 1 from by have := inn_true s2; omega)
          have HC := Lib.hid (show c = 0 ∨ c = 1 from by have := inn_true s3; omega)
          have H4 := Lib.hid (⟨inn_true s0, inn_true s1, inn_true s2, inn_true s3⟩ : (0 ≤ p ∧ p ≤ 3) ∧ (1 ≤ q ∧ q ≤ 4294967295) ∧ (0 ≤ a ∧ a ≤ 1) ∧ (0 ≤ c ∧ c ≤ 1))
          obtain ⟨M, hM⟩ : ∃ M, M = most a c := ⟨_, rfl⟩
          have HM := Lib.hid hM
          have HL := Lib.hid (show (inn l 0 M = true) ↔ ((0 ≤ l ∧ l ≤ 7) ∧ (a = c → l = 0)) from by
            have h2 := HM.out
            unfold most at h2
            unfold inn
            rw [decide_eq_true_eq]
            split at h2
            · rename_i e
              exact ⟨fun h => ⟨by omega, fun _ => by omega⟩, fun h => by have := h.2 e; omega⟩
            · rename_i e
              exact ⟨fun h => ⟨by omega, fun h => absurd h e⟩, fun h => by omega⟩)
          cases s4 : inn l 0 M
          · rw [HF.out _ (fun h => HL.out.2 ⟨(HB.out.1 h).2.1, (HB.out.1 h).2.2.2.1⟩) (by rw [s4]; simp)]
            exact right4 p q a c l t w s0 s1 s2 s3 (HM.out ▸ s4)
          · cases s5 : inn t 0 3
            · rw [HF.out _ (fun h => (HB.out.1 h).2.2.1) (inn_false s5)]
              exact right5 p q a c l t w s0 s1 s2 s3 (HM.out ▸ s4) s5
            · have hbt : b = (bits .and .i64 t (need a c) == 0) := by
                rw [Bool.eq_iff_iff, HB.out, and_need (inn_true s5) HA.out HC.out]
                exact ⟨fun h => h.2.2.2.2, fun h => ⟨H4.out, (HL.out.1 s4).1, inn_true s5, (HL.out.1 s4).2, h⟩⟩
              rw [hbt]
              exact right6 p q a c l t w s0 s1 s2 s3 (HM.out ▸ s4) s5 HA.out HC.out
end Go.Proofs.Ytdmfgffjplbloaa.RecG
