/- When an image is right, by the code and by the reference; when two are alike. Conditions: each image lies as the facts say. -/
import Derived.Test.YtegnehdfedfphaaJ01
import Derived.BigQuiet
namespace Go.Proofs.Ytegnehdfedfphaa.ImgB
open Go.RowKit Go.Proofs.Ytegnehdfedfphaa.Kit Go.Proofs.Ytegnehdfedfphaa.Byt Go.Proofs.Ytegnehdfedfphaa.Mem Go.Proofs.Ytegnehdfedfphaa.ImgA

open Classical in
theorem bool_of (p : Prop) : ∃ b : Bool, b = true ↔ p := ⟨decide p, by simp⟩
def inn (n l m : Int) : Bool := decide (l ≤ n ∧ n ≤ m)
theorem inn_true {n l m : Int} (h : inn n l m = true) : l ≤ n ∧ n ≤ m := by simpa [inn] using h
theorem inn_false {n l m : Int} (h : inn n l m = false) : ¬ (l ≤ n ∧ n ≤ m) := by simpa [inn] using h
theorem within_any (n l m : Int) (w : World) : Calls Try.prog 37 #[.int .i64 n, .int .i64 l, .int .i64 m] w fun e w' => e = .returned (.bool (inn n l m)) ∧ w = w' := by
  unfold inn
  by_cases h : l ≤ n
  · go_enter Try.func37, Try.ntmps37
    go_wp2
    go_ret
    exact ⟨ret_bool (by simp [h]), rfl⟩
  · have h' : ¬ (l ≤ n) := h
    go_enter Try.func37, Try.ntmps37
    go_wp2
    go_ret
    exact ⟨ret_bool (by rw [Bool.eq_iff_iff]; simp; omega), rfl⟩

def right (i : Im) : Prop := (0 ≤ i.p ∧ i.p ≤ 3) ∧ (1 ≤ i.v ∧ i.v ≤ 65535) ∧ (0 ≤ i.h ∧ i.h ≤ 65535) ∧ (1 ≤ i.m ∧ i.m ≤ 16) ∧ (1 ≤ i.f ∧ i.f ≤ 32) ∧ (0 ≤ i.s ∧ i.s ≤ 15) ∧ (0 ≤ i.r ∧ i.r ≤ 15) ∧ (1 ≤ (i.n : Int) ∧ (i.n : Int) ≤ 96)

set_option maxRecDepth 100000 in
set_option maxHeartbeats 1600000 in
theorem right_any (i : Im) (w : World) (hn : i.n ≤ 9223372036854775807) (b : Bool) (hb : b = true ↔ right i) : Calls Try.prog 24 #[i.val] w (Yes w b) := by
  obtain ⟨p, v, h, m, f, s, r, A, n, c, xs⟩ := i
  have HB := Lib.hid (show b = true ↔ (0 ≤ p ∧ p ≤ 3) ∧ (1 ≤ v ∧ v ≤ 65535) ∧ (0 ≤ h ∧ h ≤ 65535) ∧ (1 ≤ m ∧ m ≤ 16) ∧ (1 ≤ f ∧ f ≤ 32) ∧ (0 ≤ s ∧ s ≤ 15) ∧ (0 ≤ r ∧ r ≤ 15) ∧ (1 ≤ (n : Int) ∧ (n : Int) ≤ 96) from hb)
  clear hb
  have HX := Lib.hid (Bx.new w ⟨p, v, h, m, f, s, r, A, n, c, xs⟩)
  have HF := Lib.hid (show ∀ q : Prop, (b = true → q) → ¬ q → b = false from fun q h hp => by rw [Bool.eq_false_iff]; exact fun hb => hp (h hb))
  show Calls _ _ #[.agg #[.int .i64 p, .int .i64 v, .int .i64 h, .int .i64 m, .int .i64 f, .int .i64 s, .int .i64 r, .slice A n c]] w _
  cases s0 : inn p 0 3
  · have hbf := Lib.hid (HF.out _ (fun h => (HB.out.1 h).1) (inn_false s0))
    go_enter Try.func24, Try.ntmps24
    go_wp2_with (go_at_call 37; refine (within_any _ _ _ _).mono ?_; rintro e w' ⟨rfl, rfl⟩)
    go_ret
    exact ⟨by rw [hbf.out]; rfl, HX.out.bel⟩
  · skip
    cases s1 : inn v 1 65535
    · have hbf := Lib.hid (HF.out _ (fun h => (HB.out.1 h).2.1) (inn_false s1))
      go_enter Try.func24, Try.ntmps24
      go_wp2_with (go_at_call 37; refine (within_any _ _ _ _).mono ?_; rintro e w' ⟨rfl, rfl⟩)
      go_ret
      exact ⟨by rw [hbf.out]; rfl, HX.out.bel⟩
    · skip
      cases s2 : inn h 0 65535
      · have hbf := Lib.hid (HF.out _ (fun h => (HB.out.1 h).2.2.1) (inn_false s2))
        go_enter Try.func24, Try.ntmps24
        go_wp2_with (go_at_call 37; refine (within_any _ _ _ _).mono ?_; rintro e w' ⟨rfl, rfl⟩)
        go_ret
        exact ⟨by rw [hbf.out]; rfl, HX.out.bel⟩
      · skip
        cases s3 : inn m 1 16
        · have hbf := Lib.hid (HF.out _ (fun h => (HB.out.1 h).2.2.2.1) (inn_false s3))
          go_enter Try.func24, Try.ntmps24
          go_wp2_with (go_at_call 37; refine (within_any _ _ _ _).mono ?_; rintro e w' ⟨rfl, rfl⟩)
          go_ret
          exact ⟨by rw [hbf.out]; rfl, HX.out.bel⟩
        · skip
          cases s4 : inn f 1 32
          · have hbf := Lib.hid (HF.out _ (fun h => (HB.out.1 h).2.2.2.2.1) (inn_false s4))
            go_enter Try.func24, Try.ntmps24
            go_wp2_with (go_at_call 37; refine (within_any _ _ _ _).mono ?_; rintro e w' ⟨rfl, rfl⟩)
            go_ret
            exact ⟨by rw [hbf.out]; rfl, HX.out.bel⟩
          · skip
            cases s5 : inn s 0 15
            · have hbf := Lib.hid (HF.out _ (fun h => (HB.out.1 h).2.2.2.2.2.1) (inn_false s5))
              go_enter Try.func24, Try.ntmps24
              go_wp2_with (go_at_call 37; refine (within_any _ _ _ _).mono ?_; rintro e w' ⟨rfl, rfl⟩)
              go_ret
              exact ⟨by rw [hbf.out]; rfl, HX.out.bel⟩
            · skip
              cases s6 : inn r 0 15
              · have hbf := Lib.hid (HF.out _ (fun h => (HB.out.1 h).2.2.2.2.2.2.1) (inn_false s6))
                go_enter Try.func24, Try.ntmps24
                go_wp2_with (go_at_call 37; refine (within_any _ _ _ _).mono ?_; rintro e w' ⟨rfl, rfl⟩)
                go_ret
                exact ⟨by rw [hbf.out]; rfl, HX.out.bel⟩
              · skip
                cases s7 : inn (n : Int) 1 96
                · have hbf := Lib.hid (HF.out _ (fun h => (HB.out.1 h).2.2.2.2.2.2.2) (inn_false s7))
                  go_enter Try.func24, Try.ntmps24
                  go_wp2_with (go_at_call 37; refine (within_any _ _ _ _).mono ?_; rintro e w' ⟨rfl, rfl⟩)
                  go_ret
                  exact ⟨by rw [hbf.out]; rfl, HX.out.bel⟩
                · skip
                  have hbt := Lib.hid (HB.out.2 ⟨inn_true s0, inn_true s1, inn_true s2, inn_true s3, inn_true s4, inn_true s5, inn_true s6, inn_true s7⟩)
                  go_enter Try.func24, Try.ntmps24
                  go_wp2_with (go_at_call 37; refine (within_any _ _ _ _).mono ?_; rintro e w' ⟨rfl, rfl⟩)
                  go_ret
                  exact ⟨by rw [hbt.out]; rfl, HX.out.bel⟩

set_option maxRecDepth 100000 in
set_option maxHeartbeats 3200000 in
theorem rright_any (i : Im) (w : World) (hn : i.n ≤ 9223372036854775807) (b : Bool) (hb : b = true ↔ right i) : Calls Try.prog 7 #[i.val] w (Yes w b) := by
  obtain ⟨p, v, h, m, f, s, r, A, n, c, xs⟩ := i
  have HB := Lib.hid (show b = true ↔ (0 ≤ p ∧ p ≤ 3) ∧ (1 ≤ v ∧ v ≤ 65535) ∧ (0 ≤ h ∧ h ≤ 65535) ∧ (1 ≤ m ∧ m ≤ 16) ∧ (1 ≤ f ∧ f ≤ 32) ∧ (0 ≤ s ∧ s ≤ 15) ∧ (0 ≤ r ∧ r ≤ 15) ∧ (1 ≤ (n : Int) ∧ (n : Int) ≤ 96) from hb)
  clear hb
  have HX := Lib.hid (Bx.new w ⟨p, v, h, m, f, s, r, A, n, c, xs⟩)
  have HF := Lib.hid (show ∀ q : Prop, (b = true → q) → ¬ q → b = false from fun q h hp => by rw [Bool.eq_false_iff]; exact fun hb => hp (h hb))
  show Calls _ _ #[.agg #[.int .i64 p, .int .i64 v, .int .i64 h, .int .i64 m, .int .i64 f, .int .i64 s, .int .i64 r, .slice A n c]] w _
  by_cases g0 : p < 0
  · have hbf := Lib.hid (HF.out _ (fun h => (HB.out.1 h).1) (by omega))
    go_enter Try.func7, Try.ntmps7
    go_wp2
    go_ret
    exact ⟨by rw [hbf.out]; rfl, HX.out.bel⟩
  · skip
    by_cases g1 : 3 < p
    · have hbf := Lib.hid (HF.out _ (fun h => (HB.out.1 h).1) (by omega))
      go_enter Try.func7, Try.ntmps7
      go_wp2
      go_ret
      exact ⟨by rw [hbf.out]; rfl, HX.out.bel⟩
    · skip
      by_cases g2 : v < 1
      · have hbf := Lib.hid (HF.out _ (fun h => (HB.out.1 h).2.1) (by omega))
        go_enter Try.func7, Try.ntmps7
        go_wp2
        go_ret
        exact ⟨by rw [hbf.out]; rfl, HX.out.bel⟩
      · skip
        by_cases g3 : 65535 < v
        · have hbf := Lib.hid (HF.out _ (fun h => (HB.out.1 h).2.1) (by omega))
          go_enter Try.func7, Try.ntmps7
          go_wp2
          go_ret
          exact ⟨by rw [hbf.out]; rfl, HX.out.bel⟩
        · skip
          by_cases g4 : h < 0
          · have hbf := Lib.hid (HF.out _ (fun h => (HB.out.1 h).2.2.1) (by omega))
            go_enter Try.func7, Try.ntmps7
            go_wp2
            go_ret
            exact ⟨by rw [hbf.out]; rfl, HX.out.bel⟩
          · skip
            by_cases g5 : 65535 < h
            · have hbf := Lib.hid (HF.out _ (fun h => (HB.out.1 h).2.2.1) (by omega))
              go_enter Try.func7, Try.ntmps7
              go_wp2
              go_ret
              exact ⟨by rw [hbf.out]; rfl, HX.out.bel⟩
            · skip
              by_cases g6 : m < 1
              · have hbf := Lib.hid (HF.out _ (fun h => (HB.out.1 h).2.2.2.1) (by omega))
                go_enter Try.func7, Try.ntmps7
                go_wp2
                go_ret
                exact ⟨by rw [hbf.out]; rfl, HX.out.bel⟩
              · skip
                by_cases g7 : 16 < m
                · have hbf := Lib.hid (HF.out _ (fun h => (HB.out.1 h).2.2.2.1) (by omega))
                  go_enter Try.func7, Try.ntmps7
                  go_wp2
                  go_ret
                  exact ⟨by rw [hbf.out]; rfl, HX.out.bel⟩
                · skip
                  by_cases g8 : f < 1
                  · have hbf := Lib.hid (HF.out _ (fun h => (HB.out.1 h).2.2.2.2.1) (by omega))
                    go_enter Try.func7, Try.ntmps7
                    go_wp2
                    go_ret
                    exact ⟨by rw [hbf.out]; rfl, HX.out.bel⟩
                  · skip
                    by_cases g9 : 32 < f
                    · have hbf := Lib.hid (HF.out _ (fun h => (HB.out.1 h).2.2.2.2.1) (by omega))
                      go_enter Try.func7, Try.ntmps7
                      go_wp2
                      go_ret
                      exact ⟨by rw [hbf.out]; rfl, HX.out.bel⟩
                    · skip
                      by_cases g10 : s < 0
                      · have hbf := Lib.hid (HF.out _ (fun h => (HB.out.1 h).2.2.2.2.2.1) (by omega))
                        go_enter Try.func7, Try.ntmps7
                        go_wp2
                        go_ret
                        exact ⟨by rw [hbf.out]; rfl, HX.out.bel⟩
                      · skip
                        by_cases g11 : 15 < s
                        · have hbf := Lib.hid (HF.out _ (fun h => (HB.out.1 h).2.2.2.2.2.1) (by omega))
                          go_enter Try.func7, Try.ntmps7
                          go_wp2
                          go_ret
                          exact ⟨by rw [hbf.out]; rfl, HX.out.bel⟩
                        · skip
                          by_cases g12 : r < 0
                          · have hbf := Lib.hid (HF.out _ (fun h => (HB.out.1 h).2.2.2.2.2.2.1) (by omega))
                            go_enter Try.func7, Try.ntmps7
                            go_wp2
                            go_ret
                            exact ⟨by rw [hbf.out]; rfl, HX.out.bel⟩
                          · skip
                            by_cases g13 : 15 < r
                            · have hbf := Lib.hid (HF.out _ (fun h => (HB.out.1 h).2.2.2.2.2.2.1) (by omega))
                              go_enter Try.func7, Try.ntmps7
                              go_wp2
                              go_ret
                              exact ⟨by rw [hbf.out]; rfl, HX.out.bel⟩
                            · skip
                              by_cases g14 : ¬ 1 ≤ (n : Int)
                              · have hbf := Lib.hid (HF.out _ (fun h => (HB.out.1 h).2.2.2.2.2.2.2) (by omega))
                                go_enter Try.func7, Try.ntmps7
                                go_wp2
                                go_ret
                                exact ⟨by rw [hbf.out]; rfl, HX.out.bel⟩
                              · skip
                                by_cases g15 : ¬ (n : Int) ≤ 96
                                · have hbf := Lib.hid (HF.out _ (fun h => (HB.out.1 h).2.2.2.2.2.2.2) (by omega))
                                  go_enter Try.func7, Try.ntmps7
                                  go_wp2
                                  go_ret
                                  exact ⟨by rw [hbf.out]; rfl, HX.out.bel⟩
                                · skip
                                  have hbt := Lib.hid (HB.out.2 (by omega))
                                  have k1 : 1 ≤ (n : Int) := by omega
                                  have k2 : (n : Int) ≤ 96 := by omega
                                  go_enter Try.func7, Try.ntmps7
                                  go_wp2
                                  go_ret
                                  exact ⟨by rw [hbt.out]; rfl, HX.out.bel⟩

end Go.Proofs.Ytegnehdfedfphaa.ImgB
