/- Whether two messages are alike, by the reference. Conditions: each lies as the facts say. -/
import Derived.Test.YtamilgbjjcdlbaaPduA
import Derived.Test.YtamilgbjjcdlbaaSame
namespace Go.Proofs.Ytamilgbjjcdlbaa.PduB
open Go.RowKit Go.Proofs.Ytamilgbjjcdlbaa.Kit Go.Proofs.Ytamilgbjjcdlbaa.Byt Go.Proofs.Ytamilgbjjcdlbaa.Mem Go.Proofs.Ytamilgbjjcdlbaa.RecM Go.Proofs.Ytamilgbjjcdlbaa.PduM Go.Proofs.Ytamilgbjjcdlbaa.PduA Go.Proofs.Ytamilgbjjcdlbaa.Same

def like (i j : Pu) : Prop := i.k = j.k ∧ i.s = j.s ∧ i.p = j.p ∧ i.n = j.n ∧ i.z = j.z ∧ i.y = j.y ∧ i.c = j.c ∧ i.h = j.h ∧ i.xs = j.xs
theorem like_pd {i j : Pu} : like i j ↔ i.pd = j.pd := by
  unfold like Pu.pd
  simp only [Pd.mk.injEq]
set_option maxRecDepth 100000 in
set_option maxHeartbeats 3200000 in
theorem rsame_any (i j : Pu) (w : World) (hi : i.ok w) (hj : j.ok w) (b : Bool) (hb : b = true ↔ like i j) : Calls Try.prog 18 #[i.val, j.val] w (Yes w b) := by
  obtain ⟨k, s, p, n, z, y, c, h, A, m, d, xs⟩ := i
  obtain ⟨k', s', p', n', z', y', c', h', A', m', d', xs'⟩ := j
  have HB := Lib.hid (show b = true ↔ k = k' ∧ s = s' ∧ p = p' ∧ n = n' ∧ z = z' ∧ y = y' ∧ c = c' ∧ h = h' ∧ xs = xs' from hb)
  clear hb
  have HF := Lib.hid (show ∀ q : Prop, (b = true → q) → ¬ q → b = false from fun q h hp => by rw [Bool.eq_false_iff]; exact fun hb => hp (h hb))
  have HS := Lib.hid (same_n (w := (w.alloc (.cells #[.int .i64 k, .int .i64 s, .int .i64 p, .int .i64 n, .int .i64 z, .int .i64 y, .int .i64 c, .int .i64 h, .slice A m d] 24)).alloc (.cells #[.int .i64 k', .int .i64 s', .int .i64 p', .int .i64 n', .int .i64 z', .int .i64 y', .int .i64 c', .int .i64 h', .slice A' m' d'] 24)) ((hi.alloc _).alloc _).data ((hj.alloc _).alloc _).data)
  have HX := Lib.hid (((Below.refl w.heap.size w).alloc (Nat.le_refl _) (.cells #[.int .i64 k, .int .i64 s, .int .i64 p, .int .i64 n, .int .i64 z, .int .i64 y, .int .i64 c, .int .i64 h, .slice A m d] 24)).alloc (by simp) (.cells #[.int .i64 k', .int .i64 s', .int .i64 p', .int .i64 n', .int .i64 z', .int .i64 y', .int .i64 c', .int .i64 h', .slice A' m' d'] 24))
  clear hi hj
  dsimp only at HS
  show Calls _ _ #[.agg #[.int .i64 k, .int .i64 s, .int .i64 p, .int .i64 n, .int .i64 z, .int .i64 y, .int .i64 c, .int .i64 h, .slice A m d], .agg #[.int .i64 k', .int .i64 s', .int .i64 p', .int .i64 n', .int .i64 z', .int .i64 y', .int .i64 c', .int .i64 h', .slice A' m' d']] w _
  cases g0 : (k == k')
  · have hbf := Lib.hid (HF.out _ (fun h => (HB.out.1 h).1) (by simpa using g0))
    go_enter Try.func18, Try.ntmps18
    go_wp2
    go_ret
    exact ⟨by rw [hbf.out]; rfl, HX.out⟩
  · skip
    cases g1 : (s == s')
    · have hbf := Lib.hid (HF.out _ (fun h => (HB.out.1 h).2.1) (by simpa using g1))
      go_enter Try.func18, Try.ntmps18
      go_wp2
      go_ret
      exact ⟨by rw [hbf.out]; rfl, HX.out⟩
    · skip
      cases g2 : (p == p')
      · have hbf := Lib.hid (HF.out _ (fun h => (HB.out.1 h).2.2.1) (by simpa using g2))
        go_enter Try.func18, Try.ntmps18
        go_wp2
        go_ret
        exact ⟨by rw [hbf.out]; rfl, HX.out⟩
      · skip
        cases g3 : (n == n')
        · have hbf := Lib.hid (HF.out _ (fun h => (HB.out.1 h).2.2.2.1) (by simpa using g3))
          go_enter Try.func18, Try.ntmps18
          go_wp2
          go_ret
          exact ⟨by rw [hbf.out]; rfl, HX.out⟩
        · skip
          cases g4 : (z == z')
          · have hbf := Lib.hid (HF.out _ (fun h => (HB.out.1 h).2.2.2.2.1) (by simpa using g4))
            go_enter Try.func18, Try.ntmps18
            go_wp2
            go_ret
            exact ⟨by rw [hbf.out]; rfl, HX.out⟩
          · skip
            cases g5 : (y == y')
            · have hbf := Lib.hid (HF.out _ (fun h => (HB.out.1 h).2.2.2.2.2.1) (by simpa using g5))
              go_enter Try.func18, Try.ntmps18
              go_wp2
              go_ret
              exact ⟨by rw [hbf.out]; rfl, HX.out⟩
            · skip
              cases g6 : (c == c')
              · have hbf := Lib.hid (HF.out _ (fun h => (HB.out.1 h).2.2.2.2.2.2.1) (by simpa using g6))
                go_enter Try.func18, Try.ntmps18
                go_wp2
                go_ret
                exact ⟨by rw [hbf.out]; rfl, HX.out⟩
              · skip
                cases g7 : (h == h')
                · have hbf := Lib.hid (HF.out _ (fun h => (HB.out.1 h).2.2.2.2.2.2.2.1) (by simpa using g7))
                  go_enter Try.func18, Try.ntmps18
                  go_wp2
                  go_ret
                  exact ⟨by rw [hbf.out]; rfl, HX.out⟩
                · skip
                  have hbt := Lib.hid (show b = decide (xs = xs') from by rw [Bool.eq_iff_iff, HB.out]; simp at g0 g1 g2 g3 g4 g5 g6 g7; simp [g0, g1, g2, g3, g4, g5, g6, g7])
                  go_enter Try.func18, Try.ntmps18
                  go_wp2_with (go_at_call 15; refine (HS.out).mono ?_; rintro e w' ⟨rfl, nq, rfl⟩)
                  go_ret
                  exact ⟨by rw [hbt.out]; rfl, below_drewN HX.out _⟩
end Go.Proofs.Ytamilgbjjcdlbaa.PduB
