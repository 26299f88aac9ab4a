/- When a record is right, by the reference. Conditions: its numbers are of 64 bits. -/
import Derived.Test.YtdmfgffjplbloaaJ03
namespace Go.Proofs.Ytdmfgffjplbloaa.RecB
open Go.RowKit Go.Proofs.Ytdmfgffjplbloaa.Kit Go.Proofs.Ytdmfgffjplbloaa.Byt Go.Proofs.Ytdmfgffjplbloaa.Mem Go.Proofs.Ytdmfgffjplbloaa.RecM Go.Proofs.Ytdmfgffjplbloaa.RecA

set_option maxRecDepth 100000 in
set_option maxHeartbeats 3200000 in
theorem rright_last (p q a c l : Int) (t : Nat) (w : World) (h1 : ¬ p < 0) (h2 : ¬ 3 < p) (h3 : ¬ q < 1) (h4 : ¬ 4294967295 < q) (h5 : ¬ a < 0) (h6 : ¬ 1 < a) (h7 : ¬ c < 0) (h8 : ¬ 1 < c) (h9 : ¬ l < 0) (h10 : ¬ 7 < l) (h12 : ¬ 3 < (t : Int)) (b1 b2 : Bool) (ge : a = c → ¬ 0 < l) (hb1 : b1 = true ↔ bitOn t a) (hb2 : b2 = true ↔ bitOn t c) : Calls Try.prog 22 #[rval ⟨p, q, a, c, l, t⟩] w (Yes w (!b1 && !b2)) := by
  have HX := Lib.hid (Bx.new w 31 (rcells ⟨p, q, a, c, l, t⟩))
  have HA := Lib.hid (fun w' => rbit_any t a w' (by omega) (by omega) b1 hb1)
  have HC := Lib.hid (fun w' => rbit_any t c w' (by omega) (by omega) b2 hb2)
  show Calls _ _ #[.agg #[.int .i64 p, .int .i64 q, .int .i64 a, .int .i64 c, .int .i64 l, .int .i64 (t : Int)]] w _
  by_cases e : a = c
  · subst e
    have gl := ge rfl
    obtain rfl : b1 = b2 := by rw [Bool.eq_iff_iff, hb1, hb2]
    clear hb1 hb2 ge HC
    cases b1
    · go_enter Try.func22, Try.ntmps22
      go_wp2_with (go_at_call 36; refine (HA.out _).mono ?_; rintro e w' ⟨rfl, rfl⟩)
      go_ret
      exact ⟨rfl, HX.out.bel⟩
    · go_enter Try.func22, Try.ntmps22
      go_wp2_with (go_at_call 36; refine (HA.out _).mono ?_; rintro e w' ⟨rfl, rfl⟩)
      go_ret
      exact ⟨rfl, HX.out.bel⟩
  · have e' : (a == c) = false := by simpa using e
    clear ge hb1 hb2
    cases b1
    · go_enter Try.func22, Try.ntmps22
      go_wp2_with fail
      refine (HA.out _).mono ?_
      rintro e w' ⟨rfl, rfl⟩
      go_wp2_with fail
      refine (HC.out _).mono ?_
      rintro e w' ⟨rfl, rfl⟩
      go_wp2_with fail
      go_ret
      exact ⟨rfl, HX.out.bel⟩
    · go_enter Try.func22, Try.ntmps22
      go_wp2_with fail
      refine (HA.out _).mono ?_
      rintro e w' ⟨rfl, rfl⟩
      go_wp2_with fail
      go_ret
      exact ⟨rfl, HX.out.bel⟩

set_option maxRecDepth 100000 in
set_option maxHeartbeats 1600000 in
theorem rright_any (r : Rc) (w : World) (hk : rok r) (b : Bool) (hb : b = true ↔ r.right) : Calls Try.prog 22 #[rval r] w (Yes w b) := by
  obtain ⟨p, q, a, c, l, t⟩ := r
  have HB := Lib.hid (show b = true ↔ ((0 ≤ p ∧ p ≤ 3) ∧ (1 ≤ q ∧ q ≤ 4294967295) ∧ (0 ≤ a ∧ a ≤ 1) ∧ (0 ≤ c ∧ c ≤ 1)) ∧ (0 ≤ l ∧ l ≤ 7) ∧ (0 ≤ t ∧ t ≤ 3) ∧ (a = c → l = 0) ∧ ¬ bitOn t a ∧ ¬ bitOn t c from hb)
  clear hb hk
  have HX := Lib.hid (Bx.new w 31 (rcells ⟨p, q, a, c, l, t⟩))
  have HF := Lib.hid (show ∀ q : Prop, (b = true → q) → ¬ q → b = false from fun q h hp => by rw [Bool.eq_false_iff]; exact fun hb => hp (h hb))
  show Calls _ _ #[.agg #[.int .i64 p, .int .i64 q, .int .i64 a, .int .i64 c, .int .i64 l, .int .i64 t]] w _
  by_cases g0 : p < 0
  · have hbf := Lib.hid (HF.out _ (fun h => (HB.out.1 h).1.1) (by omega))
    go_enter Try.func22, Try.ntmps22
    go_wp2
    go_ret
    exact ⟨by rw [hbf.out]; rfl, HX.out.bel⟩
  · skip
    by_cases g1 : 3 < p
    · have hbf := Lib.hid (HF.out _ (fun h => (HB.out.1 h).1.1) (by omega))
      go_enter Try.func22, Try.ntmps22
      go_wp2
      go_ret
      exact ⟨by rw [hbf.out]; rfl, HX.out.bel⟩
    · skip
      by_cases g2 : q < 1
      · have hbf := Lib.hid (HF.out _ (fun h => (HB.out.1 h).1.2.1) (by omega))
        go_enter Try.func22, Try.ntmps22
        go_wp2
        go_ret
        exact ⟨by rw [hbf.out]; rfl, HX.out.bel⟩
      · skip
        by_cases g3 : 4294967295 < q
        · have hbf := Lib.hid (HF.out _ (fun h => (HB.out.1 h).1.2.1) (by omega))
          go_enter Try.func22, Try.ntmps22
          go_wp2
          go_ret
          exact ⟨by rw [hbf.out]; rfl, HX.out.bel⟩
        · skip
          by_cases g4 : a < 0
          · have hbf := Lib.hid (HF.out _ (fun h => (HB.out.1 h).1.2.2.1) (by omega))
            go_enter Try.func22, Try.ntmps22
            go_wp2
            go_ret
            exact ⟨by rw [hbf.out]; rfl, HX.out.bel⟩
          · skip
            by_cases g5 : 1 < a
            · have hbf := Lib.hid (HF.out _ (fun h => (HB.out.1 h).1.2.2.1) (by omega))
              go_enter Try.func22, Try.ntmps22
              go_wp2
              go_ret
              exact ⟨by rw [hbf.out]; rfl, HX.out.bel⟩
            · skip
              by_cases g6 : c < 0
              · have hbf := Lib.hid (HF.out _ (fun h => (HB.out.1 h).1.2.2.2) (by omega))
                go_enter Try.func22, Try.ntmps22
                go_wp2
                go_ret
                exact ⟨by rw [hbf.out]; rfl, HX.out.bel⟩
              · skip
                by_cases g7 : 1 < c
                · have hbf := Lib.hid (HF.out _ (fun h => (HB.out.1 h).1.2.2.2) (by omega))
                  go_enter Try.func22, Try.ntmps22
                  go_wp2
                  go_ret
                  exact ⟨by rw [hbf.out]; rfl, HX.out.bel⟩
                · skip
                  by_cases g8 : l < 0
                  · have hbf := Lib.hid (HF.out _ (fun h => (HB.out.1 h).2.1) (by omega))
                    go_enter Try.func22, Try.ntmps22
                    go_wp2
                    go_ret
                    exact ⟨by rw [hbf.out]; rfl, HX.out.bel⟩
                  · skip
                    by_cases g9 : 7 < l
                    · have hbf := Lib.hid (HF.out _ (fun h => (HB.out.1 h).2.1) (by omega))
                      go_enter Try.func22, Try.ntmps22
                      go_wp2
                      go_ret
                      exact ⟨by rw [hbf.out]; rfl, HX.out.bel⟩
                    · skip
                      by_cases g10 : t < 0
                      · have hbf := Lib.hid (HF.out _ (fun h => (HB.out.1 h).2.2.1) (by omega))
                        go_enter Try.func22, Try.ntmps22
                        go_wp2
                        go_ret
                        exact ⟨by rw [hbf.out]; rfl, HX.out.bel⟩
                      · skip
                        by_cases g11 : 3 < t
                        · have hbf := Lib.hid (HF.out _ (fun h => (HB.out.1 h).2.2.1) (by omega))
                          go_enter Try.func22, Try.ntmps22
                          go_wp2
                          go_ret
                          exact ⟨by rw [hbf.out]; rfl, HX.out.bel⟩
                        · skip
                          obtain ⟨tn, rfl⟩ : ∃ k : Nat, t = k := ⟨t.toNat, by omega⟩
                          by_cases gE : a = c ∧ 0 < l
                          · obtain ⟨rfl, gl⟩ := gE
                            have hbf := Lib.hid (HF.out _ (fun h => (HB.out.1 h).2.2.2.1) (fun h => by have := h rfl; omega))
                            go_enter Try.func22, Try.ntmps22
                            go_wp2
                            go_ret
                            exact ⟨by rw [hbf.out]; rfl, HX.out.bel⟩
                          · obtain ⟨b1, hb1⟩ := bool_of (bitOn (tn : Int) a)
                            obtain ⟨b2, hb2⟩ := bool_of (bitOn (tn : Int) c)
                            have hR : b = (!b1 && !b2) := by rw [Bool.eq_iff_iff, HB.out]; simp only [Bool.and_eq_true, Bool.not_eq_true', Bool.eq_false_iff, ne_eq, hb1, hb2]; exact ⟨fun h => h.2.2.2.2, fun h => ⟨⟨by omega, by omega, by omega, by omega⟩, by omega, by omega, fun e => by by_cases h0 : 0 < l; exact absurd ⟨e, h0⟩ gE; omega, h⟩⟩
                            rw [hR]
                            exact rright_last p q a c l tn w g0 g1 g2 g3 g4 g5 g6 g7 g8 g9 g11 b1 b2 (fun e h => gE ⟨e, h⟩) hb1 hb2
end Go.Proofs.Ytdmfgffjplbloaa.RecB
